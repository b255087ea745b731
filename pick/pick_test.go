package pick_test

import (
	"math"
	"slices"
	"testing"

	"betrothal/pick"
)

// P2.1: Index.
func TestIndex(t *testing.T) {
	for _, c := range []struct {
		pick  uint64
		n, at int
		is    bool
	}{
		{7, 3, 1, true},
		{0, 1, 0, true},
		{5, 1, 0, true},
		{2, 3, 2, true},
		{3, 3, 0, true},
		{math.MaxUint64, 1, 0, true},
		{math.MaxUint64, 2, 1, true},
		{math.MaxUint64, 10, 5, true},
		{1 << 63, 3, 2, true},
		{1 << 63, math.MaxInt, 1, true},
		{math.MaxInt64 - 1, math.MaxInt, math.MaxInt - 1, true},
		{7, 0, 0, false},
		{7, -1, 0, false},
		{7, -3, 0, false},
		{math.MaxUint64, math.MinInt, 0, false},
	} {
		if at, is := pick.Index(c.pick, c.n); at != c.at || is != c.is {
			t.Errorf("Index(%d, %d) = %d, %v", c.pick, c.n, at, is)
		}
	}
}

// P2.1: Picks.
func TestPicks(t *testing.T) {
	if l := pick.Picks([]byte{0, 255, 7, 7}); !slices.Equal(l, []uint64{0, 255, 7, 7}) {
		t.Error(l)
	}
	for _, b := range [][]byte{nil, {}} {
		if l := pick.Picks(b); len(l) != 0 {
			t.Error(l)
		}
	}
	var all []byte
	for b := range 256 {
		all = append(all, byte(b))
	}
	l := pick.Picks(all)
	if len(l) != 256 {
		t.Fatal(len(l))
	}
	for b, one := range l {
		if one != uint64(b) {
			t.Errorf("byte %d: %d", b, one)
		}
	}
	m := pick.Picks(all)
	l[0] = 9
	if m[0] != 0 || all[0] != 0 {
		t.Error("results are shared")
	}
}

// P2.1: Next.
func TestNext(t *testing.T) {
	for _, c := range []struct {
		last int
		runs []int
		next int
		is   bool
	}{
		{1, []int{0, 1, 2}, 2, true},
		{2, []int{0, 1, 2}, 0, true},
		{0, []int{0, 1, 2}, 1, true},
		{3, []int{0, 4, 9}, 4, true},
		{4, []int{0, 4, 9}, 9, true},
		{9, []int{3, 4, 9}, 3, true},
		{100, []int{3, 4, 9}, 3, true},
		{-1, []int{0, 1}, 0, true},
		{-7, []int{2, 5}, 2, true},
		{6, []int{6}, 6, true},
		{math.MinInt, []int{0, 1}, 0, true},
		{math.MaxInt, []int{0, 1}, 0, true},
		{math.MaxInt - 1, []int{0, math.MaxInt}, math.MaxInt, true},
		{5, nil, 0, false},
		{5, []int{}, 0, false},
		// Of others, the first one in their order that is greater, otherwise the first one.
		{1, []int{5, 3, 2}, 5, true},
		{3, []int{2, 9, 4}, 9, true},
		{9, []int{7, 2, 8}, 7, true},
		{1, []int{1, 1, 1}, 1, true},
		{-5, []int{-7, -3, -4}, -3, true},
		{0, []int{-7, -3}, -7, true},
	} {
		was := slices.Clone(c.runs)
		if next, is := pick.Next(c.last, c.runs...); next != c.next || is != c.is {
			t.Errorf("Next(%d: %v) = %d, %v", c.last, c.runs, next, is)
		}
		if !slices.Equal(was, c.runs) {
			t.Errorf("Next(%d: %v) changed its threads", c.last, was)
		}
	}
}
