package spin_test

import (
	"math"
	"slices"
	"testing"

	"betrothal/api"
	"betrothal/spin"
)

// P3.3: the states of locks in the order of their indices, by one load each.
func TestStates(t *testing.T) {
	a := arena(t, 6, 0, 1, 7, 0, math.MaxUint64)
	values := cells(t, a)
	for _, places := range [][]int{
		nil, {}, {0}, {1}, {4}, {0, 1, 2, 3, 4}, {4, 3, 2, 1, 0}, {1, 1, 0, 1}, {3, 0, 3}, {2, 4},
	} {
		want, loads := []bool{}, []api.Access{}
		for _, at := range places {
			want, loads = append(want, values[at] != 0), append(loads, load(at, values[at]))
		}
		was := slices.Clone(places)
		wantAccesses(t, "States", a, func() {
			if l, e := spin.States(a, places...); !slices.Equal(l, want) || e != api.OK {
				t.Errorf("States(%v) = %v, %v; not %v", places, l, e, want)
			}
		}, loads...)
		if !slices.Equal(places, was) {
			t.Errorf("States(%v) changed its indices", was)
		}
	}
	wantCells(t, "States", a, values...)
}

// P3.3: the states follow the locks, and an earlier result stays as it was.
func TestStatesChange(t *testing.T) {
	a := arena(t, 3)
	for range 3 {
		spin.New(a)
	}
	want := []bool{false, false, false}
	look := func() []bool {
		t.Helper()
		l, e := spin.States(a, 0, 1, 2)
		if !slices.Equal(l, want) || e != api.OK {
			t.Errorf("%v, %v; not %v", l, e, want)
		}
		return l
	}
	first := look()
	wantTry(t, a, 2, true, api.OK)
	want[2] = true
	look()
	wantTry(t, a, 0, true, api.OK)
	wantTry(t, a, 2, false, api.OK)
	want[0] = true
	look()
	wantFree(t, a, 2, api.OK)
	want[2] = false
	look()
	if slices.Contains(first, true) {
		t.Errorf("an earlier result became %v", first)
	}
}

// P3.3: one index that is wrong suffices, wherever it stands: no access is made.
func TestStatesWrong(t *testing.T) {
	a := arena(t, 8, 1, 0, 1)
	count := a.Count()
	for _, bad := range outside(3) {
		for _, places := range [][]int{{bad}, {bad, 0}, {0, bad}, {0, 1, 2, bad}, {0, bad, 2}, {bad, bad}} {
			if l, e := spin.States(a, places...); l != nil || e != api.ErrRange {
				t.Errorf("States(%v) = %v, %v", places, l, e)
			}
		}
	}
	if a.Count() != count {
		t.Errorf("%d accesses", a.Count()-count)
	}
	empty := arena(t, 1)
	if l, e := spin.States(empty); len(l) != 0 || e != api.OK {
		t.Errorf("no lock: %v, %v", l, e)
	}
	if l, e := spin.States(empty, 0); l != nil || e != api.ErrRange {
		t.Errorf("no cell: %v, %v", l, e)
	}
}

// P3.3: no arena comes before no cell, and before no index.
func TestStatesAbsent(t *testing.T) {
	for name, a := range absent() {
		for _, places := range [][]int{nil, {0}, {-1}, {0, 1}, {math.MaxInt, 0}} {
			if l, e := spin.States(a, places...); l != nil || e != api.ErrNil {
				t.Errorf("%s: States(%v) = %v, %v", name, places, l, e)
			}
		}
	}
}
