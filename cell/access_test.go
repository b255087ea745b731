package cell_test

import (
	"math"
	"testing"

	"betrothal/api"
	"betrothal/cell"
)

// P1.2: Load returns the value of the cell and changes nothing.
func TestLoad(t *testing.T) {
	a := arena(t, 3, 3)
	a.Store(0, 5)
	a.Store(2, math.MaxUint64)
	for at, want := range []uint64{5, 0, math.MaxUint64} {
		for range 2 {
			if v, e := a.Load(at); v != want || e != api.OK {
				t.Errorf("Load(%d) = %d, %v", at, v, e)
			}
		}
	}
}

// P1.2: Store puts a number into one cell.
func TestStore(t *testing.T) {
	a := arena(t, 3, 3)
	for _, v := range []uint64{1, 0, 7, 7, math.MaxUint64, 1 << 63} {
		if e := a.Store(1, v); e != api.OK {
			t.Errorf("Store(1, %d): %v", v, e)
		}
		if l := cells(t, a); l[0] != 0 || l[1] != v || l[2] != 0 {
			t.Errorf("Store(1, %d): cells %v", v, l)
		}
	}
}

// P1.2: Swap returns the value before, and is performed only if it is the expected one.
func TestSwap(t *testing.T) {
	for _, c := range []struct {
		held, old, new uint64
		did            bool
		after          uint64
	}{
		{7, 7, 9, true, 9},
		{7, 8, 9, false, 7},
		{7, 9, 7, false, 7},
		{7, 7, 7, true, 7},
		{7, 8, 7, false, 7},
		{7, 0, 1, false, 7},
		{0, 0, 1, true, 1},
		{0, 1, 0, false, 0},
		{math.MaxUint64, math.MaxUint64, 0, true, 0},
		{1 << 32, 0, 1, false, 1 << 32},
	} {
		a := arena(t, 2, 2)
		a.Store(1, c.held)
		was, did, e := a.Swap(1, c.old, c.new)
		if was != c.held || did != c.did || e != api.OK {
			t.Errorf("%v: %d, %v, %v", c, was, did, e)
		}
		if l := cells(t, a); l[0] != 0 || l[1] != c.after {
			t.Errorf("%v: cells %v", c, l)
		}
	}
}

// P1.2: Add returns the value before and counts modulo 2^64.
func TestAdd(t *testing.T) {
	for _, c := range []struct{ held, n, after uint64 }{
		{0, 0, 0},
		{0, 3, 3},
		{4, 3, 7},
		{9, math.MaxUint64, 8},
		{math.MaxUint64, 1, 0},
		{math.MaxUint64, math.MaxUint64, math.MaxUint64 - 1},
		{1 << 63, 1 << 63, 0},
	} {
		a := arena(t, 2, 2)
		a.Store(1, c.held)
		if was, e := a.Add(1, c.n); was != c.held || e != api.OK {
			t.Errorf("%v: %d, %v", c, was, e)
		}
		if l := cells(t, a); l[0] != 0 || l[1] != c.after {
			t.Errorf("%v: cells %v", c, l)
		}
	}
}

// attempts makes each of the four accesses and wants the given error of all.
func attempts(t *testing.T, a *cell.Arena, at int, want api.Errno) {
	t.Helper()
	if v, e := a.Load(at); v != 0 || e != want {
		t.Errorf("Load(%d) = %d, %v", at, v, e)
	}
	if e := a.Store(at, 7); e != want {
		t.Errorf("Store(%d) = %v", at, e)
	}
	for _, old := range []uint64{0, 1} {
		if was, did, e := a.Swap(at, old, 9); was != 0 || did || e != want {
			t.Errorf("Swap(%d, %d) = %d, %v, %v", at, old, was, did, e)
		}
	}
	if was, e := a.Add(at, 3); was != 0 || e != want {
		t.Errorf("Add(%d) = %d, %v", at, was, e)
	}
}

// P1.2: an access to a cell that does not exist is none.
func TestAccessWrong(t *testing.T) {
	for _, n := range []int{0, 1, 4} {
		a := arena(t, 8, n)
		for at := range n {
			a.Store(at, 2)
		}
		before := observe(t, a)
		for _, at := range places(n) {
			attempts(t, a, at, api.ErrRange)
		}
		expect(t, "no such cell", a, before)
	}
	for name, a := range absent() {
		for _, at := range append(places(0), 0) {
			attempts(t, a, at, api.ErrNil)
		}
		if a.Count() != 0 || a.Len() != 0 {
			t.Errorf("%s: %d accesses, %d cells", name, a.Count(), a.Len())
		}
	}
}

// P1.2: the last cell of the greatest arena is one, and the one past it is none.
func TestAccessLast(t *testing.T) {
	a := arena(t, api.MaxCells, api.MaxCells)
	if e := a.Store(api.MaxCells-1, 3); e != api.OK {
		t.Error(e)
	}
	if v, e := a.Load(api.MaxCells - 1); v != 3 || e != api.OK {
		t.Error(v, e)
	}
	attempts(t, a, api.MaxCells, api.ErrRange)
}

// P1.2: each call is exactly one access, whether or not a swap is performed.
func TestAccessOnce(t *testing.T) {
	a := arena(t, 2, 2)
	calls := []func(){
		func() { a.Load(1) },
		func() { a.Store(1, 5) },
		func() { a.Swap(1, 5, 6) },
		func() { a.Swap(1, 5, 7) },
		func() { a.Add(1, 0) },
	}
	for i, call := range calls {
		call()
		if a.Count() != uint64(i+1) || len(collect(a.Log())) != i+1 {
			t.Errorf("call %d: %d accesses, %d logged", i, a.Count(), len(collect(a.Log())))
		}
	}
}

// The examples of the chapter.
func TestExamples(t *testing.T) {
	a := arena(t, 3, 2)
	if at, e := a.Alloc(2); at != 0 || e != api.ErrFull {
		t.Error(at, e)
	}
	if at, e := a.Alloc(0); at != 2 || e != api.OK {
		t.Error(at, e)
	}
	if at, e := a.Alloc(-1); at != 0 || e != api.ErrArg {
		t.Error(at, e)
	}
	if e := a.Store(1, 7); e != api.OK {
		t.Error(e)
	}
	if v, e := a.Load(1); v != 7 || e != api.OK {
		t.Error(v, e)
	}
	if v, e := a.Load(2); v != 0 || e != api.ErrRange {
		t.Error(v, e)
	}
	if was, did, e := a.Swap(1, 7, 9); was != 7 || !did || e != api.OK {
		t.Error(was, did, e)
	}
	if was, did, e := a.Swap(1, 7, 8); was != 9 || did || e != api.OK {
		t.Error(was, did, e)
	}
	if was, e := a.Add(1, math.MaxUint64); was != 9 || e != api.OK {
		t.Error(was, e)
	}
	if v, e := a.Load(1); v != 8 || e != api.OK {
		t.Error(v, e)
	}
	if a.Count() != 6 {
		t.Error(a.Count())
	}
	third := entry{2, api.Access{Op: api.AccessSwap, At: 1, Old: 7, New: 9, Did: true}}
	if l := collect(a.Log()); len(l) != 6 || l[2] != third {
		t.Error(l)
	}
}
