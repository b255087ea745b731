package pick_test

import (
	"math"
	"slices"
	"testing"

	"betrothal/api"
	"betrothal/pick"
)

// P2.2: Fair.
func TestFair(t *testing.T) {
	l := []api.Turn{turn(0, 0, 1), turn(0, 0, 1), turn(1, 0, 1)}
	for _, c := range []struct {
		w    int
		l    []api.Turn
		fair bool
	}{
		{2, l, false},
		{3, l, true},
		{4, l, true},
		{math.MaxInt, l, true},
		{1, l, false},
		{0, l, false},
		{-1, l, false},
		{math.MinInt, l, false},
		{1, nil, true},
		{7, nil, true},
		{0, nil, false},
		{1, []api.Turn{turn(3, 3)}, true},
		{1, []api.Turn{turn(3, 3, 4)}, false},
		{2, []api.Turn{turn(3, 3, 4)}, true},
		// The thread that does not take the step is not runnable in between.
		{2, []api.Turn{turn(0, 0, 1), turn(0, 0), turn(0, 0, 1)}, true},
		{1, []api.Turn{turn(0, 0, 1), turn(0, 0), turn(0, 0, 1)}, false},
		// It takes the step in between.
		{2, []api.Turn{turn(0, 0, 1), turn(1, 0, 1), turn(0, 0, 1)}, true},
		// The window that is not fair is the last one.
		{2, []api.Turn{turn(0, 0, 1), turn(1, 0, 1), turn(0, 0, 1), turn(0, 0, 1)}, false},
		// Two different threads wait for one turn each.
		{2, []api.Turn{turn(0, 0, 1), turn(0, 0, 2)}, true},
	} {
		if fair := pick.Fair(c.w, c.l...); fair != c.fair {
			t.Errorf("Fair(%d: %v) = %v", c.w, c.l, fair)
		}
	}
}

// P2.2, P2.3: a turn that is not valid, whatever the others are.
func TestInvalid(t *testing.T) {
	good := turn(1, 0, 1)
	for name, bad := range wrong() {
		for _, l := range [][]api.Turn{{bad}, {good, bad}, {bad, good}, {good, turn(0, 0, 1), good, bad}} {
			for _, w := range []int{1, 2, 5} {
				if pick.Fair(w, l...) {
					t.Errorf("%s: Fair(%d: %v)", name, w, l)
				}
			}
			wantPairs(t, name+": waits", collect(pick.Waits(l...)), nil)
			wantPairs(t, name+": went", collect(pick.Went(l...)), nil)
		}
	}
}

// P2.3: Waits and Went.
func TestWaitsAndWent(t *testing.T) {
	for _, c := range []struct {
		name        string
		l           []api.Turn
		waits, went []pair
	}{
		{"none", nil, nil, nil},
		{"the chapter's", []api.Turn{turn(0, 0, 1), turn(0, 0, 1), turn(1, 0, 1)},
			[]pair{{0, 1}, {1, 2}}, []pair{{0, 2}, {1, 1}}},
		{"alone", []api.Turn{turn(4, 4), turn(4, 4)}, []pair{{4, 0}}, []pair{{4, 2}}},
		{"never took", []api.Turn{turn(2, 2, 9), turn(2, 2, 9)}, []pair{{2, 0}, {9, 2}}, []pair{{2, 2}, {9, 0}}},
		{"interrupted", []api.Turn{turn(0, 0, 1), turn(0, 0), turn(0, 0, 1), turn(0, 0, 1)},
			[]pair{{0, 0}, {1, 2}}, []pair{{0, 4}, {1, 0}}},
		{"the first wait is the longest", []api.Turn{turn(0, 0, 1), turn(0, 0, 1), turn(1, 0, 1), turn(0, 0, 1)},
			[]pair{{0, 1}, {1, 2}}, []pair{{0, 3}, {1, 1}}},
		{"increasing order", []api.Turn{turn(8, 7, 8), turn(3, 3, 5), turn(0, 0, 5)},
			[]pair{{0, 0}, {3, 0}, {5, 2}, {7, 1}, {8, 0}}, []pair{{0, 1}, {3, 1}, {5, 0}, {7, 0}, {8, 1}}},
		{"great", []api.Turn{turn(0, 0, math.MaxInt)}, []pair{{0, 0}, {math.MaxInt, 1}}, []pair{{0, 1}, {math.MaxInt, 0}}},
		{"late", []api.Turn{turn(0, 0), turn(0, 0), turn(0, 0, 1)}, []pair{{0, 0}, {1, 1}}, []pair{{0, 3}, {1, 0}}},
	} {
		wantPairs(t, c.name+": waits", collect(pick.Waits(c.l...)), c.waits)
		wantPairs(t, c.name+": went", collect(pick.Went(c.l...)), c.went)
	}
}

// P2.3: the loops may stop early, and the iterators may be used again.
func TestIteratorsAgain(t *testing.T) {
	l := []api.Turn{turn(0, 0, 1, 2), turn(0, 0, 1, 2)}
	waits, went := pick.Waits(l...), pick.Went(l...)
	for range waits {
		break
	}
	for range went {
		break
	}
	for range 2 {
		wantPairs(t, "waits", collect(waits), []pair{{0, 0}, {1, 2}, {2, 2}})
		wantPairs(t, "went", collect(went), []pair{{0, 2}, {1, 0}, {2, 0}})
	}
	for range waits { // one within the other
		wantPairs(t, "waits", collect(waits), []pair{{0, 0}, {1, 2}, {2, 2}})
	}
}

// An iterator uses the turns as they were when its function was called.
func TestIteratorsKeep(t *testing.T) {
	l := []api.Turn{turn(0, 0, 1), turn(0, 0, 1)}
	waits, went := pick.Waits(l...), pick.Went(l...)
	l[0].Runs[1] = 7
	l[1] = turn(0)
	wantPairs(t, "waits", collect(waits), []pair{{0, 0}, {1, 2}})
	wantPairs(t, "went", collect(went), []pair{{0, 2}, {1, 0}})
}

// Arguments are not modified, including what lies behind them.
func TestTurnsStay(t *testing.T) {
	var n numbers
	runs := []int{0, 1, 2, 99}
	l := append(n.turns(9, 4), api.Turn{Runs: runs[:3], Took: 1}, turn(98, 98))
	was := copied(l)
	part := l[:10]
	pick.Check(part...)
	pick.Fair(2, part...)
	collect(pick.Waits(part...))
	collect(pick.Went(part...))
	if !sameTurns(l, was) || runs[3] != 99 {
		t.Errorf("turns were changed: %v, not %v", l, was)
	}
}

// waitsOf finds the waits by their definition: for every thread, every stretch of turns.
func waitsOf(l []api.Turn) (waits, went []pair) {
	var threads []int
	for _, x := range l {
		threads = append(threads, x.Runs...)
	}
	slices.Sort(threads)
	for _, thread := range slices.Compact(threads) {
		most, took := 0, 0
		for from := range l {
			if l[from].Took == thread {
				took++
			}
			for to := from; to < len(l) && l[to].Took != thread && slices.Contains(l[to].Runs, thread); to++ {
				most = max(most, to-from+1)
			}
		}
		waits, went = append(waits, pair{thread, most}), append(went, pair{thread, took})
	}
	return waits, went
}

// fairOf finds by the definition whether turns are fair.
func fairOf(w int, l []api.Turn) bool {
	for from := 0; from+w <= len(l); from++ {
		window := l[from : from+w]
		for _, thread := range window[0].Runs {
			always, took := true, false
			for _, x := range window {
				always = always && slices.Contains(x.Runs, thread)
				took = took || x.Took == thread
			}
			if always && !took {
				return false
			}
		}
	}
	return true
}

// P2.2, P2.3, P2.5: many sequences, against the definitions.
func TestTurnsModel(t *testing.T) {
	n := numbers(5)
	for range 400 {
		l := n.turns(n.below(14), 1+n.below(4))
		if at, e := pick.Check(l...); at != 0 || e != api.OK {
			t.Fatalf("Check(%v) = %d, %v", l, at, e)
		}
		waits, went := waitsOf(l)
		wantPairs(t, "waits", collect(pick.Waits(l...)), waits)
		wantPairs(t, "went", collect(pick.Went(l...)), went)
		for w := 1; w < 16; w++ {
			fair := pick.Fair(w, l...)
			if fair != fairOf(w, l) {
				t.Fatalf("Fair(%d: %v) = %v", w, l, fair)
			}
			reached := slices.ContainsFunc(waits, func(p pair) bool { return p[1] >= w })
			if fair == reached {
				t.Fatalf("Fair(%d: %v) = %v beside waits %v", w, l, fair, waits)
			}
		}
	}
}

// P2.5: turns in round-robin order, after any thread, are fair for the number of threads.
func TestRoundRobinIsFair(t *testing.T) {
	n := numbers(11)
	for range 300 {
		threads := 1 + n.below(5)
		l := n.turns(n.below(30), threads)
		last := n.below(20) - 2
		for i := range l {
			l[i].Took, _ = pick.Next(last, l[i].Runs...)
			last = l[i].Took
		}
		if !pick.Fair(threads, l...) {
			t.Fatalf("Fair(%d: %v) is false", threads, l)
		}
	}
	for threads := 2; threads < 9; threads++ {
		l, e := pick.Round(threads, 5*threads)
		if e != api.OK || !pick.Fair(threads, l...) || pick.Fair(threads-1, l...) {
			t.Errorf("%d threads in turn: %v", threads, e)
		}
	}
}
