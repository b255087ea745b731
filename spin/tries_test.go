package spin_test

import (
	"math"
	"testing"

	"betrothal/api"
	"betrothal/spin"
)

// failures are the first attempts, none of which succeeds.
func failures(n int) []attempt {
	var l []attempt
	for number := range n {
		l = append(l, attempt{number, false})
	}
	return l
}

// P3.2: the attempts on a held lock end after the given number, each being one access.
func TestTriesHeld(t *testing.T) {
	for _, v := range []uint64{1, 2, math.MaxUint64} {
		for _, most := range []int{1, 2, 3, 50} {
			a := arena(t, 2, 0, v)
			count := a.Count()
			wantAttempts(t, "held", take(99, spin.Tries(a, 1, most)), failures(most)...)
			if a.Count() != count+uint64(most) {
				t.Errorf("most %d: %d accesses", most, a.Count()-count)
			}
			for _, x := range since(a, count) {
				if x != swap(1, v, v, false) {
					t.Errorf("most %d: access %v", most, x)
				}
			}
			wantCells(t, "held", a, 0, v)
		}
	}
}

// P3.2: the attempts on a free lock end with the first one.
func TestTriesFree(t *testing.T) {
	for _, most := range []int{1, 2, 50, math.MaxInt} {
		a := arena(t, 2, 1, 0)
		wantAccesses(t, "free", a, func() {
			wantAttempts(t, "free", take(99, spin.Tries(a, 1, most)), attempt{0, true})
		}, swap(1, 0, 1, true))
		wantCells(t, "free", a, 1, 1)
	}
}

// P3.2: a lock that is freed while the loop goes on is acquired by the next attempt.
func TestTriesFreed(t *testing.T) {
	for freed := range 4 {
		a := arena(t, 1, 1)
		var l []attempt
		for number, acquired := range spin.Tries(a, 0, 10) {
			l = append(l, attempt{number, acquired})
			if number == freed && !acquired {
				wantFree(t, a, 0, api.OK)
			}
		}
		wantAttempts(t, "freed", l, append(failures(freed+1), attempt{freed + 1, true})...)
		wantCells(t, "freed", a, 1)
	}
	// Freed after the last attempt, it stays free.
	a := arena(t, 1, 1)
	for number := range spin.Tries(a, 0, 3) {
		if number == 2 {
			wantFree(t, a, 0, api.OK)
		}
	}
	wantCells(t, "freed at last", a, 0)
}

// P3.2: a successful attempt ends the iteration, even if the lock is freed within the loop.
func TestTriesEnds(t *testing.T) {
	a := arena(t, 1, 0)
	n := 0
	for range spin.Tries(a, 0, 10) {
		n++
		wantFree(t, a, 0, api.OK)
	}
	if n != 1 {
		t.Errorf("%d attempts", n)
	}
	wantCells(t, "freed", a, 0)
}

// P3.2: no attempt is made before the loop reaches it.
func TestTriesLater(t *testing.T) {
	a := arena(t, 1, 0)
	count := a.Count()
	s := spin.Tries(a, 0, 5)
	if a.Count() != count {
		t.Errorf("%d accesses before the loop", a.Count()-count)
	}
	wantTry(t, a, 0, true, api.OK)
	wantAttempts(t, "later", take(99, s), failures(5)...)
	count = a.Count()
	for number := range s {
		if a.Count() != count+uint64(number)+1 {
			t.Errorf("attempt %d: %d accesses", number, a.Count()-count)
		}
	}
}

// P3.2: the loop may stop early: no further attempt is made.
func TestTriesStops(t *testing.T) {
	for _, most := range []int{5, math.MaxInt} {
		for _, stop := range []int{1, 2, 4} {
			a := arena(t, 1, 1)
			count := a.Count()
			wantAttempts(t, "stopped", take(stop, spin.Tries(a, 0, most)), failures(stop)...)
			if a.Count() != count+uint64(stop) {
				t.Errorf("stopped after %d: %d accesses", stop, a.Count()-count)
			}
		}
	}
}

// P3.2: an iterator that is used again tries again, from number 0 on.
func TestTriesAgain(t *testing.T) {
	a := arena(t, 1, 1)
	s := spin.Tries(a, 0, 3)
	wantAttempts(t, "stopped", take(2, s), failures(2)...)
	wantAttempts(t, "held", take(99, s), failures(3)...)
	wantFree(t, a, 0, api.OK)
	wantAttempts(t, "free", take(99, s), attempt{0, true})
	wantAttempts(t, "acquired", take(99, s), failures(3)...)
	wantFree(t, a, 0, api.OK)
	wantAttempts(t, "free again", take(99, s), attempt{0, true})
	n := 0
	for number := range s { // one loop within the other
		if number != n {
			t.Errorf("outer attempt %d is number %d", n, number)
		}
		wantAttempts(t, "inner", take(99, s), failures(3)...)
		n++
	}
	if n != 3 {
		t.Errorf("%d outer attempts", n)
	}
}

// P3.2: no arena, no cell, or no attempt: the iterator exists and yields nothing.
func TestTriesNothing(t *testing.T) {
	for name, a := range absent() {
		for _, at := range []int{-1, 0, 1, math.MinInt, math.MaxInt} {
			for range 2 {
				wantAttempts(t, name, take(99, spin.Tries(a, at, 3)))
			}
		}
	}
	a := arena(t, 4, 0, 0)
	count := a.Count()
	for _, at := range outside(2) {
		wantAttempts(t, "no cell", take(99, spin.Tries(a, at, 3)))
	}
	for _, most := range []int{0, -1, -3, math.MinInt} {
		wantAttempts(t, "no attempt", take(99, spin.Tries(a, 0, most)))
		wantAttempts(t, "no cell, no attempt", take(99, spin.Tries(a, 9, most)))
	}
	wantCells(t, "nothing", a, 0, 0)
	if a.Count() != count {
		t.Errorf("%d accesses", a.Count()-count)
	}
}

// P3.2: whether there is a cell is seen when the loop reaches an attempt.
func TestTriesCellLater(t *testing.T) {
	a := arena(t, 4, 1)
	s := spin.Tries(a, 1, 3)
	wantAttempts(t, "no cell yet", take(99, s))
	if at, e := spin.New(a); at != 1 || e != api.OK {
		t.Fatal(at, e)
	}
	wantAttempts(t, "a cell by now", take(99, s), attempt{0, true})
	wantCells(t, "a cell by now", a, 1, 1)
}
