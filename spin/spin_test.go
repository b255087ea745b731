package spin_test

import (
	"math"
	"testing"

	"betrothal/api"
	"betrothal/spin"
)

// The examples of the chapter.
func TestExamples(t *testing.T) {
	a := arena(t, 2)
	if at, e := spin.New(a); at != 0 || e != api.OK {
		t.Error(at, e)
	}
	wantHeld(t, a, 0, false, api.OK)
	wantTry(t, a, 0, true, api.OK)
	wantTry(t, a, 0, false, api.OK)
	wantHeld(t, a, 0, true, api.OK)
	wantFree(t, a, 0, api.OK)
	wantFree(t, a, 0, api.ErrFree)
	wantHeld(t, a, 0, false, api.OK)
	wantTry(t, a, 0, true, api.OK)
	wantAttempts(t, "held", take(9, spin.Tries(a, 0, 3)), attempt{0, false}, attempt{1, false}, attempt{2, false})
	wantFree(t, a, 0, api.OK)
	wantAttempts(t, "free", take(9, spin.Tries(a, 0, 3)), attempt{0, true})
	wantTry(t, a, 9, false, api.ErrRange)
}

// P3.1: New allocates one cell behind those that exist, without an access, until none is left.
func TestNew(t *testing.T) {
	a := arena(t, 5, 7, 8)
	count := a.Count()
	for want := 2; want < 5; want++ {
		if at, e := spin.New(a); at != want || e != api.OK {
			t.Errorf("New = %d, %v; not %d", at, e, want)
		}
		if a.Len() != want+1 {
			t.Errorf("%d cells after lock %d", a.Len(), want)
		}
	}
	for range 2 {
		if at, e := spin.New(a); at != 0 || e != api.ErrFull {
			t.Errorf("full: New = %d, %v", at, e)
		}
	}
	wantCells(t, "new locks", a, 7, 8, 0, 0, 0)
	if a.Count() != count {
		t.Errorf("%d accesses", a.Count()-count)
	}
	for at := 2; at < 5; at++ {
		wantHeld(t, a, at, false, api.OK)
		wantTry(t, a, at, true, api.OK)
	}
}

// P3.1: the greatest arena is filled with locks.
func TestNewMany(t *testing.T) {
	a := arena(t, api.MaxCells)
	for want := range api.MaxCells {
		if at, e := spin.New(a); at != want || e != api.OK {
			t.Fatalf("New = %d, %v; not %d", at, e, want)
		}
	}
	if at, e := spin.New(a); at != 0 || e != api.ErrFull {
		t.Errorf("New = %d, %v", at, e)
	}
	wantTry(t, a, api.MaxCells-1, true, api.OK)
	wantTry(t, a, api.MaxCells, false, api.ErrRange)
}

// P3.1: each call is one access, also one that does not change the lock; what a cell holds decides.
func TestCalls(t *testing.T) {
	for _, v := range []uint64{0, 1, 2, 7, 1 << 32, 1 << 63, math.MaxUint64} {
		acquired, freed := v == 0, v == 1
		afterTry, afterFree, e := v, v, api.ErrFree
		if acquired {
			afterTry = 1
		}
		if freed {
			afterFree, e = 0, api.OK
		}
		a := arena(t, 3, 1, v, 0)
		wantAccesses(t, "Held", a, func() { wantHeld(t, a, 1, v != 0, api.OK) }, load(1, v))
		wantCells(t, "Held", a, 1, v, 0)
		wantAccesses(t, "Try", a, func() { wantTry(t, a, 1, acquired, api.OK) }, swap(1, v, afterTry, acquired))
		wantCells(t, "Try", a, 1, afterTry, 0)
		a = arena(t, 3, 1, v, 0)
		wantAccesses(t, "Free", a, func() { wantFree(t, a, 1, e) }, swap(1, v, afterFree, freed))
		wantCells(t, "Free", a, 1, afterFree, 0)
	}
}

// P3.1: a lock goes from one holder to the next.
func TestAgain(t *testing.T) {
	a := arena(t, 1)
	at, _ := spin.New(a)
	for range 3 {
		wantHeld(t, a, at, false, api.OK)
		wantTry(t, a, at, true, api.OK)
		for range 3 {
			wantTry(t, a, at, false, api.OK)
			wantHeld(t, a, at, true, api.OK)
		}
		wantFree(t, a, at, api.OK)
		for range 2 {
			wantFree(t, a, at, api.ErrFree)
		}
	}
}

// P3.1: locks do not touch one another.
func TestApart(t *testing.T) {
	a, b := arena(t, 3, 0, 0, 0), arena(t, 3, 0, 0, 0)
	wantTry(t, a, 1, true, api.OK)
	wantCells(t, "the second", a, 0, 1, 0)
	wantTry(t, a, 2, true, api.OK)
	wantTry(t, a, 0, true, api.OK)
	wantFree(t, a, 1, api.OK)
	wantCells(t, "the others", a, 1, 0, 1)
	wantCells(t, "the other arena", b, 0, 0, 0)
	wantFree(t, b, 0, api.ErrFree)
}

// P3.1: no arena, and no cell; neither is an access.
func TestWrong(t *testing.T) {
	for name, a := range absent() {
		if at, e := spin.New(a); at != 0 || e != api.ErrNil {
			t.Errorf("%s: New = %d, %v", name, at, e)
		}
		for _, at := range append(outside(0), 0, 5) {
			wantTry(t, a, at, false, api.ErrNil)
			wantFree(t, a, at, api.ErrNil)
			wantHeld(t, a, at, false, api.ErrNil)
		}
	}
	for _, a := range [][]uint64{nil, {1}, {1, 0, 1}} {
		a := arena(t, 8, a...)
		before, count := cells(t, a), a.Count()
		for _, at := range outside(a.Len()) {
			wantTry(t, a, at, false, api.ErrRange)
			wantFree(t, a, at, api.ErrRange)
			wantHeld(t, a, at, false, api.ErrRange)
		}
		wantCells(t, "no such lock", a, before...)
		if a.Count() != count {
			t.Errorf("%d accesses", a.Count()-count)
		}
	}
}
