package cell_test

import (
	"math"
	"testing"

	"betrothal/api"
	"betrothal/cell"
)

// P1.1: the maximum of an arena lies between 1 and 65536.
func TestNew(t *testing.T) {
	for _, most := range []int{1, 2, 1000, 65535, 65536} {
		a, e := cell.New(most)
		if a == nil || e != api.OK {
			t.Fatalf("New(%d) = %v, %v", most, a, e)
		}
		expect(t, "new", a, state{most: most})
		if a.Len() != 0 {
			t.Errorf("New(%d): %d cells", most, a.Len())
		}
	}
	for _, most := range []int{0, 65537, -1, math.MinInt, math.MaxInt} {
		if a, e := cell.New(most); a != nil || e != api.ErrArg {
			t.Errorf("New(%d) = %v, %v", most, a, e)
		}
	}
}

// P1.1: Alloc appends cells that hold 0 and tells where they begin.
func TestAlloc(t *testing.T) {
	a := arena(t, 10, 0)
	end := 0
	for _, n := range []int{1, 0, 3, 0, 2} {
		at, e := a.Alloc(n)
		if at != end || e != api.OK {
			t.Errorf("Alloc(%d) = %d, %v; want %d", n, at, e, end)
		}
		end += n
		if a.Len() != end || a.Most() != 10 {
			t.Errorf("after Alloc(%d): %d of %d cells", n, a.Len(), a.Most())
		}
	}
	expect(t, "alloc", a, state{most: 10, cells: make([]uint64, 6)})
}

// P1.1: new cells hold 0, and those that exist keep their numbers.
func TestAllocKeepsCells(t *testing.T) {
	a := arena(t, 100, 0)
	for i := range 50 {
		at, e := a.Alloc(2)
		if at != 2*i || e != api.OK {
			t.Fatalf("Alloc(2) = %d, %v; want %d", at, e, 2*i)
		}
		for k := range 2 {
			if v, e := a.Load(at + k); v != 0 || e != api.OK {
				t.Errorf("new cell %d: %d, %v", at+k, v, e)
			}
			a.Store(at+k, uint64(at+k)+7)
		}
	}
	for at, v := range cells(t, a) {
		if v != uint64(at)+7 {
			t.Errorf("cell %d holds %d", at, v)
		}
	}
}

// P1.1: an arena is filled to its maximum and no further.
func TestAllocFull(t *testing.T) {
	for _, most := range []int{1, 2, 65536} {
		a := arena(t, most, most-1)
		if at, e := a.Alloc(2); at != 0 || e != api.ErrFull {
			t.Errorf("of %d: Alloc(2) = %d, %v", most, at, e)
		}
		if a.Len() != most-1 {
			t.Errorf("of %d: %d cells after ErrFull", most, a.Len())
		}
		if at, e := a.Alloc(1); at != most-1 || e != api.OK {
			t.Errorf("of %d: Alloc(1) = %d, %v", most, at, e)
		}
		if at, e := a.Alloc(0); at != most || e != api.OK {
			t.Errorf("of %d, full: Alloc(0) = %d, %v", most, at, e)
		}
		for _, n := range []int{1, 2, most, math.MaxInt} {
			if at, e := a.Alloc(n); at != 0 || e != api.ErrFull {
				t.Errorf("of %d, full: Alloc(%d) = %d, %v", most, n, at, e)
			}
		}
		if a.Len() != most {
			t.Errorf("of %d: %d cells", most, a.Len())
		}
		if e := a.Store(most-1, 5); e != api.OK {
			t.Errorf("of %d: last cell: %v", most, e)
		}
	}
}

// P1.1: the greatest arena is filled one cell at a time.
func TestAllocOneByOne(t *testing.T) {
	a := arena(t, api.MaxCells, 0)
	for i := range api.MaxCells {
		if at, e := a.Alloc(1); at != i || e != api.OK {
			t.Fatalf("Alloc(1) = %d, %v; want %d", at, e, i)
		}
	}
	if at, e := a.Alloc(1); at != 0 || e != api.ErrFull {
		t.Errorf("Alloc(1) = %d, %v", at, e)
	}
}

// P1.1: what is wrong is refused and changes nothing.
func TestAllocWrong(t *testing.T) {
	a := arena(t, 5, 3)
	a.Store(1, 9)
	before := observe(t, a)
	for _, n := range []int{-1, -5, math.MinInt} {
		if at, e := a.Alloc(n); at != 0 || e != api.ErrArg {
			t.Errorf("Alloc(%d) = %d, %v", n, at, e)
		}
	}
	for _, n := range []int{3, 6, 65537, math.MaxInt} {
		if at, e := a.Alloc(n); at != 0 || e != api.ErrFull {
			t.Errorf("Alloc(%d) = %d, %v", n, at, e)
		}
	}
	expect(t, "refused", a, before)
	for name, a := range absent() {
		for _, n := range []int{-1, 0, 1, math.MinInt, math.MaxInt} {
			if at, e := a.Alloc(n); at != 0 || e != api.ErrNil {
				t.Errorf("%s: Alloc(%d) = %d, %v", name, n, at, e)
			}
		}
	}
}

// P1.1: arenas do not share cells.
func TestNewApart(t *testing.T) {
	a, b := arena(t, 4, 2), arena(t, 4, 2)
	a.Store(0, 3)
	a.Alloc(1)
	expect(t, "the other arena", b, state{most: 4, cells: []uint64{0, 0}})
}
