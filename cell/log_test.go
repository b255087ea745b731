package cell_test

import (
	"math"
	"slices"
	"testing"

	"betrothal/api"
)

// P1.3: Len, Most and Count tell of cells, their maximum, and accesses.
func TestCounts(t *testing.T) {
	a := arena(t, 9, 0)
	want := func(cells, most int, count uint64) {
		t.Helper()
		if a.Len() != cells || a.Most() != most || a.Count() != count {
			t.Errorf("%d of %d cells, %d accesses; want %d of %d, %d", a.Len(), a.Most(), a.Count(), cells, most, count)
		}
	}
	want(0, 9, 0)
	a.Alloc(4)
	want(4, 9, 0)
	a.Store(3, 1)
	want(4, 9, 1)
	a.Alloc(2)
	want(6, 9, 1)
	a.Load(5)
	a.Add(6, 1)
	want(6, 9, 2)
	a.Log()
	a.Copy()
	want(6, 9, 2)
}

// P1.3: no arena has nothing.
func TestCountsAbsent(t *testing.T) {
	for name, a := range absent() {
		if a.Len() != 0 || a.Most() != 0 || a.Count() != 0 {
			t.Errorf("%s: %d of %d cells, %d accesses", name, a.Len(), a.Most(), a.Count())
		}
		if s := a.Log(); s == nil || len(collect(s)) != 0 || len(collect(s)) != 0 {
			t.Errorf("%s: an iterator over something, or none", name)
		}
	}
}

// P1.3: every kind of access is logged as the chapter defines it.
func TestLogKinds(t *testing.T) {
	a := arena(t, 3, 3)
	if l := collect(a.Log()); len(l) != 0 {
		t.Errorf("at first: %v", l)
	}
	a.Load(2)
	a.Store(2, 7)
	a.Store(2, 7)
	a.Load(2)
	a.Swap(2, 7, 9)
	a.Swap(2, 7, 8)
	a.Swap(2, 9, 9)
	a.Add(2, math.MaxUint64)
	a.Add(2, 0)
	a.Load(3)
	a.Swap(-1, 0, 1)
	a.Swap(0, 0, 3)
	want := []entry{
		{0, api.Access{Op: api.AccessLoad, At: 2, Old: 0, New: 0, Did: true}},
		{1, api.Access{Op: api.AccessStore, At: 2, Old: 0, New: 7, Did: true}},
		{2, api.Access{Op: api.AccessStore, At: 2, Old: 7, New: 7, Did: true}},
		{3, api.Access{Op: api.AccessLoad, At: 2, Old: 7, New: 7, Did: true}},
		{4, api.Access{Op: api.AccessSwap, At: 2, Old: 7, New: 9, Did: true}},
		{5, api.Access{Op: api.AccessSwap, At: 2, Old: 9, New: 9, Did: false}},
		{6, api.Access{Op: api.AccessSwap, At: 2, Old: 9, New: 9, Did: true}},
		{7, api.Access{Op: api.AccessAdd, At: 2, Old: 9, New: 8, Did: true}},
		{8, api.Access{Op: api.AccessAdd, At: 2, Old: 8, New: 8, Did: true}},
		{9, api.Access{Op: api.AccessSwap, At: 0, Old: 0, New: 3, Did: true}},
	}
	if l := collect(a.Log()); !slices.Equal(l, want) {
		t.Errorf("%v, not %v", l, want)
	}
}

// P1.3: the last 1024 accesses are logged, with their numbers, oldest first.
func TestLogLast(t *testing.T) {
	a := arena(t, 1, 1)
	stops := []int{0, 1, 2, 1023, 1024, 1025, 1026, 2047, 2048, 2049, 5000}
	made := 0
	for _, stop := range stops {
		for ; made < stop; made++ {
			a.Store(0, uint64(made)+100)
		}
		l := collect(a.Log())
		if a.Count() != uint64(made) || len(l) != min(made, 1024) {
			t.Fatalf("after %d: %d accesses, %d logged", made, a.Count(), len(l))
		}
		for i, x := range l {
			n := uint64(made - len(l) + i)
			old := n + 99
			if n == 0 {
				old = 0
			}
			if want := (entry{n, api.Access{Op: api.AccessStore, At: 0, Old: old, New: n + 100, Did: true}}); x != want {
				t.Fatalf("after %d, at %d: %v, not %v", made, i, x, want)
			}
		}
	}
}

// P1.3: a loop over Log may stop early, and the iterator may be used again.
func TestLogStops(t *testing.T) {
	for _, made := range []int{5, 1024, 1500} {
		a := arena(t, 1, 1)
		for range made {
			a.Add(0, 1)
		}
		s := a.Log()
		whole := collect(s)
		for _, stop := range []int{1, 2, len(whole) - 1, len(whole)} {
			var part []entry
			s(func(number uint64, x api.Access) bool {
				part = append(part, entry{number, x})
				return len(part) < stop
			})
			if !slices.Equal(part, whole[:stop]) {
				t.Errorf("of %d: stopped after %d, got %d", made, stop, len(part))
			}
		}
		for number, x := range s {
			if (entry{number, x}) != whole[0] {
				t.Errorf("of %d: starts with %d", made, number)
			}
			break
		}
		if !slices.Equal(collect(s), whole) {
			t.Errorf("of %d: the iterator is different when it is used again", made)
		}
	}
}

// P1.3: two loops over one iterator do not disturb each other.
func TestLogNested(t *testing.T) {
	a := arena(t, 1, 1)
	for range 1030 {
		a.Add(0, 1)
	}
	s := a.Log()
	whole := collect(s)
	var outer []entry
	for number, x := range s {
		if len(outer)%500 == 0 && !slices.Equal(collect(s), whole) {
			t.Errorf("inside, at %d", number)
		}
		outer = append(outer, entry{number, x})
	}
	if !slices.Equal(outer, whole) {
		t.Error("outside")
	}
}

// P1.3: the iterator tells the accesses as they were when Log was called.
func TestLogThen(t *testing.T) {
	for _, made := range []int{0, 3, 1023, 1024, 1100} {
		a := arena(t, 1, 1)
		for range made {
			a.Add(0, 1)
		}
		s := a.Log()
		then := collect(a.Log())
		for range 700 {
			a.Store(0, 0)
		}
		if !slices.Equal(collect(s), then) {
			t.Errorf("of %d: later accesses are seen", made)
		}
		later := a.Log()
		now := collect(a.Log())
		var got []entry
		for number, x := range later {
			got = append(got, entry{number, x})
			a.Store(0, 9)
			a.Add(0, 1)
			if len(got) > len(now) { // an iterator that follows the loop would never end
				break
			}
		}
		if !slices.Equal(got, now) || !slices.Equal(collect(later), now) {
			t.Errorf("of %d: accesses made within the loop are seen", made)
		}
	}
}
