package cell_test

import (
	"testing"

	"betrothal/api"
	"betrothal/cell"
)

// used returns an arena with cells and accesses.
func used(t *testing.T, accesses int) *cell.Arena {
	t.Helper()
	a := arena(t, 6, 3)
	for i := range accesses {
		a.Store(i%3, uint64(i)+1)
	}
	return a
}

// P1.4: a copy has the same contents, its accesses too.
func TestCopy(t *testing.T) {
	for _, made := range []int{0, 1, 4, 1023, 1024, 1025, 3000} {
		a := used(t, made)
		before := observe(t, a)
		b := a.Copy()
		if b == nil || b == a {
			t.Fatalf("of %d: not a copy", made)
		}
		expect(t, "the copy", b, before)
		expect(t, "the original", a, before)
		if !cell.Same(a, b) {
			t.Errorf("of %d: the copy is not the same", made)
		}
	}
	expect(t, "a copy without cells", arena(t, 4, 0).Copy(), state{most: 4})
	for name, a := range absent() {
		if a.Copy() != nil {
			t.Errorf("%s: a copy", name)
		}
	}
}

// change alters all that an arena has, and leaves it full.
func change(a *cell.Arena, v uint64) {
	for range 500 {
		for at := range a.Len() {
			a.Store(at, v)
		}
	}
	a.Alloc(2)
	a.Store(4, v)
	a.Alloc(1)
	a.Add(5, v)
}

// P1.4: what happens to one of the two does not happen to the other.
func TestCopyApart(t *testing.T) {
	for _, made := range []int{0, 1, 4, 1023, 1024, 1025, 3000} {
		a := used(t, made)
		before := observe(t, a)
		b := a.Copy()
		change(a, 900)
		expect(t, "the copy", b, before)
		c := a.Copy()
		full := observe(t, c)
		change(b, 800)
		expect(t, "the original", a, full)
		change(c, 700)
		expect(t, "the copied", a, full)
	}
}

// P1.4: cells that both append are their own.
func TestCopyAllocs(t *testing.T) {
	a := arena(t, 20, 0)
	for i := range 10 {
		at, _ := a.Alloc(1)
		b := a.Copy()
		for k, x := range []*cell.Arena{a, b} {
			if at, e := x.Alloc(1); at != 2*i+1 || e != api.OK {
				t.Fatalf("Alloc(1) = %d, %v", at, e)
			}
			x.Store(at, uint64(10+k))
			x.Store(at+1, uint64(20+k))
		}
		for k, x := range []*cell.Arena{a, b} {
			l := cells(t, x)
			if l[at] != uint64(10+k) || l[at+1] != uint64(20+k) {
				t.Errorf("cells %v", l)
			}
		}
	}
}

// P1.4: a copy keeps its maximum.
func TestCopyFull(t *testing.T) {
	b := arena(t, 3, 2).Copy()
	if at, e := b.Alloc(2); at != 0 || e != api.ErrFull {
		t.Error(at, e)
	}
	if at, e := b.Alloc(1); at != 2 || e != api.OK {
		t.Error(at, e)
	}
	if _, e := b.Load(3); e != api.ErrRange {
		t.Error(e)
	}
}

// P1.4: arenas are the same if the maximum and the cells are.
func TestSame(t *testing.T) {
	with := func(most int, l ...uint64) *cell.Arena {
		a := arena(t, most, len(l))
		for at, v := range l {
			a.Store(at, v)
		}
		return a
	}
	accessed := with(5, 1, 2)
	accessed.Load(0)
	accessed.Swap(1, 2, 3)
	accessed.Swap(1, 3, 2)
	list := []struct {
		name string
		a    *cell.Arena
		kind int
	}{
		{"nil", nil, 0},
		{"zero", new(cell.Arena), 0},
		{"empty of 5", with(5), 1},
		{"empty of 5, again", with(5), 1},
		{"empty of 6", with(6), 2},
		{"a 0", with(5, 0), 3},
		{"1, 2", with(5, 1, 2), 4},
		{"1, 2, again", with(5, 1, 2), 4},
		{"1, 2, more accesses", accessed, 4},
		{"1, 2 of 6", with(6, 1, 2), 5},
		{"2, 1", with(5, 2, 1), 6},
		{"1, 3", with(5, 1, 3), 7},
		{"0, 2", with(5, 0, 2), 8},
		{"1, 2, 0", with(5, 1, 2, 0), 9},
		{"1", with(5, 1), 10},
	}
	for _, x := range list {
		for _, y := range list {
			if got := cell.Same(x.a, y.a); got != (x.kind == y.kind) {
				t.Errorf("Same(%s, %s) = %v", x.name, y.name, got)
			}
		}
	}
}

// P1.4: Same is no access.
func TestSameLooks(t *testing.T) {
	a, b := used(t, 4), used(t, 7)
	before, other := observe(t, a), observe(t, b)
	cell.Same(a, b)
	expect(t, "the first", a, before)
	expect(t, "the second", b, other)
}
