package spin_test

import (
	"math"
	"slices"
	"testing"

	"betrothal/api"
	"betrothal/cell"
	"betrothal/spin"
)

// arena returns an arena of at most most cells, the first of which hold the given numbers.
func arena(t *testing.T, most int, held ...uint64) *cell.Arena {
	t.Helper()
	a, e := cell.New(most)
	if e != api.OK {
		t.Fatalf("New(%d): %v", most, e)
	}
	if at, e := a.Alloc(len(held)); at != 0 || e != api.OK {
		t.Fatalf("Alloc(%d) = %d, %v", len(held), at, e)
	}
	for at, v := range held {
		a.Store(at, v)
	}
	return a
}

// absent are the arenas that count as no arena.
func absent() map[string]*cell.Arena {
	return map[string]*cell.Arena{"nil": nil, "zero": {}}
}

// outside are indices without a cell in an arena of n cells.
func outside(n int) []int {
	return []int{-1, n, n + 1, api.MaxCells, math.MinInt, math.MaxInt}
}

// cells reads all cells by way of a copy, so that no access is made to the arena.
func cells(t *testing.T, a *cell.Arena) []uint64 {
	t.Helper()
	b := a.Copy()
	var l []uint64
	for at := range b.Len() {
		v, e := b.Load(at)
		if e != api.OK {
			t.Fatalf("Load(%d): %v", at, e)
		}
		l = append(l, v)
	}
	return l
}

// wantCells compares the cells of an arena.
func wantCells(t *testing.T, what string, a *cell.Arena, want ...uint64) {
	t.Helper()
	if l := cells(t, a); !slices.Equal(l, want) {
		t.Errorf("%s: cells %v, not %v", what, l, want)
	}
}

// since returns the accesses of an arena from a number on.
func since(a *cell.Arena, from uint64) []api.Access {
	var l []api.Access
	for number, x := range a.Log() {
		if number >= from {
			l = append(l, x)
		}
	}
	return l
}

// wantAccesses compares the accesses that a call makes.
func wantAccesses(t *testing.T, what string, a *cell.Arena, call func(), want ...api.Access) {
	t.Helper()
	from := a.Count()
	call()
	if l := since(a, from); !slices.Equal(l, want) {
		t.Errorf("%s: accesses %v, not %v", what, l, want)
	}
}

// swap is the access of a swap.
func swap(at int, old, new uint64, did bool) api.Access {
	return api.Access{Op: api.AccessSwap, At: at, Old: old, New: new, Did: did}
}

// load is the access of a load.
func load(at int, v uint64) api.Access {
	return api.Access{Op: api.AccessLoad, At: at, Old: v, New: v, Did: true}
}

// attempt is what Tries yields.
type attempt struct {
	number   int
	acquired bool
}

// take collects what Tries yields, at most some attempts.
func take(most int, s func(func(int, bool) bool)) []attempt {
	var l []attempt
	for number, acquired := range s {
		l = append(l, attempt{number, acquired})
		if len(l) >= most {
			break
		}
	}
	return l
}

func wantAttempts(t *testing.T, what string, got []attempt, want ...attempt) {
	t.Helper()
	if !slices.Equal(got, want) {
		t.Errorf("%s: attempts %v, not %v", what, got, want)
	}
}

func wantTry(t *testing.T, a *cell.Arena, at int, want bool, e api.Errno) {
	t.Helper()
	if got, f := spin.Try(a, at); got != want || f != e {
		t.Errorf("Try(%d) = %v, %v; not %v, %v", at, got, f, want, e)
	}
}

func wantFree(t *testing.T, a *cell.Arena, at int, e api.Errno) {
	t.Helper()
	if f := spin.Free(a, at); f != e {
		t.Errorf("Free(%d) = %v; not %v", at, f, e)
	}
}

func wantHeld(t *testing.T, a *cell.Arena, at int, want bool, e api.Errno) {
	t.Helper()
	if got, f := spin.Held(a, at); got != want || f != e {
		t.Errorf("Held(%d) = %v, %v; not %v, %v", at, got, f, want, e)
	}
}

// numbers yields a fixed sequence of numbers.
type numbers uint64

func (n *numbers) below(most int) int {
	*n = *n*6364136223846793005 + 1442695040888963407
	return int(uint64(*n>>33) % uint64(most))
}
