package cell_test

import (
	"iter"
	"math"
	"slices"
	"testing"

	"betrothal/api"
	"betrothal/cell"
)

// entry is a logged access with its number.
type entry struct {
	number uint64
	access api.Access
}

func collect(s iter.Seq2[uint64, api.Access]) []entry {
	var l []entry
	for number, x := range s {
		l = append(l, entry{number, x})
	}
	return l
}

// arena returns a new arena with the given maximum and number of cells.
func arena(t *testing.T, most, cells int) *cell.Arena {
	t.Helper()
	a, e := cell.New(most)
	if a == nil || e != api.OK {
		t.Fatalf("New(%d) = %v, %v", most, a, e)
	}
	if at, e := a.Alloc(cells); at != 0 || e != api.OK {
		t.Fatalf("Alloc(%d) = %d, %v", cells, at, e)
	}
	return a
}

// absent are the arenas that count as no arena.
func absent() map[string]*cell.Arena {
	return map[string]*cell.Arena{"nil": nil, "zero": {}}
}

// places returns indices without a cell in an arena of n cells.
func places(n int) []int {
	return []int{-1, n, n + 1, api.MaxCells, math.MinInt, math.MaxInt}
}

// cells reads all cells by way of a copy, so that the arena's log stays as it is.
func cells(t *testing.T, a *cell.Arena) []uint64 {
	t.Helper()
	b := a.Copy()
	var l []uint64
	for at := range b.Len() {
		v, e := b.Load(at)
		if e != api.OK {
			t.Fatalf("Load(%d): %v", at, e)
		}
		l = append(l, v)
	}
	return l
}

// state is all that can be observed of an arena.
type state struct {
	most  int
	count uint64
	cells []uint64
	log   []entry
}

func observe(t *testing.T, a *cell.Arena) state {
	t.Helper()
	return state{a.Most(), a.Count(), cells(t, a), collect(a.Log())}
}

func (s state) equal(o state) bool {
	return s.most == o.most && s.count == o.count && slices.Equal(s.cells, o.cells) && slices.Equal(s.log, o.log)
}

// expect compares all that can be observed of an arena.
func expect(t *testing.T, what string, a *cell.Arena, want state) {
	t.Helper()
	if got := observe(t, a); !got.equal(want) {
		t.Errorf("%s: the arena is %v, not %v", what, got, want)
	}
}
