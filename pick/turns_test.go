package pick_test

import (
	"math"
	"testing"

	"betrothal/api"
	"betrothal/pick"
)

// P2.2: Check of valid turns.
func TestCheckValid(t *testing.T) {
	for _, l := range [][]api.Turn{
		nil,
		{},
		{turn(0, 0)},
		{turn(7, 7)},
		{turn(math.MaxInt, math.MaxInt)},
		{turn(0, 0, 1), turn(1, 0, 1), turn(5, 1, 3, 5), turn(3, 1, 3, 5)},
		{turn(0, 0, math.MaxInt)},
	} {
		if at, e := pick.Check(l...); at != 0 || e != api.OK {
			t.Errorf("Check(%v) = %d, %v", l, at, e)
		}
	}
}

// P2.2: Check returns the index of the first invalid turn.
func TestCheckInvalid(t *testing.T) {
	good := turn(1, 0, 1, 4)
	for name, bad := range wrong() {
		for _, c := range []struct {
			l  []api.Turn
			at int
		}{
			{[]api.Turn{bad}, 0},
			{[]api.Turn{bad, good}, 0},
			{[]api.Turn{good, bad}, 1},
			{[]api.Turn{good, good, bad, good}, 2},
			{[]api.Turn{good, bad, good, bad}, 1},
			{[]api.Turn{bad, bad}, 0},
		} {
			if at, e := pick.Check(c.l...); at != c.at || e != api.ErrArg {
				t.Errorf("%s: Check(%v) = %d, %v", name, c.l, at, e)
			}
		}
	}
}

// P2.4: the turns of Round.
func TestRound(t *testing.T) {
	for _, c := range [][2]int{{1, 0}, {1, 1}, {1, 5}, {2, 3}, {3, 7}, {5, 2}, {9, 100}} {
		n, turns := c[0], c[1]
		l, e := pick.Round(n, turns)
		if len(l) != turns || e != api.OK {
			t.Fatalf("Round(%d, %d) has %d turns, %v", n, turns, len(l), e)
		}
		var want []api.Turn
		took := 0
		for range turns {
			one := api.Turn{Took: took}
			for thread := range n {
				one.Runs = append(one.Runs, thread)
			}
			want = append(want, one)
			took, _ = pick.Next(took, one.Runs...)
		}
		if !sameTurns(l, want) {
			t.Errorf("Round(%d, %d) = %v", n, turns, l)
		}
	}
}

// P2.4: the greatest numbers, and what is beyond them.
func TestRoundBounds(t *testing.T) {
	l, e := pick.Round(api.MaxRound, 3)
	if e != api.OK || len(l) != 3 || len(l[2].Runs) != api.MaxRound || l[2].Took != 2 {
		t.Error("the greatest number of threads", len(l), e)
	}
	l, e = pick.Round(2, api.MaxRound)
	if e != api.OK || len(l) != api.MaxRound || l[api.MaxRound-1].Took != 1 {
		t.Error("the greatest number of turns", len(l), e)
	}
	for _, c := range [][2]int{
		{0, 1}, {-1, 1}, {math.MinInt, 1}, {1, -1}, {1, math.MinInt}, {0, 0}, {0, -1},
		{api.MaxRound + 1, 1}, {api.MaxRound + 1, 0}, {1, api.MaxRound + 1}, {math.MaxInt, math.MaxInt},
	} {
		if l, e := pick.Round(c[0], c[1]); l != nil || e != api.ErrArg {
			t.Errorf("Round(%d, %d): %d turns, %v", c[0], c[1], len(l), e)
		}
	}
}

// A result is new memory, also within itself.
func TestRoundShares(t *testing.T) {
	l, _ := pick.Round(2, 3)
	for i := range l {
		l[i].Runs = append(l[i].Runs[:1], 50+i, 60+i)
		l[i].Runs[0] = 70 + i
	}
	for i := range l {
		if !sameTurns(l[i:i+1], []api.Turn{turn(i%2, 70+i, 50+i, 60+i)}) {
			t.Errorf("turn %d is %v", i, l[i])
		}
	}
	m, _ := pick.Round(2, 3)
	if !sameTurns(m, []api.Turn{turn(0, 0, 1), turn(1, 0, 1), turn(0, 0, 1)}) {
		t.Error("results share memory:", m)
	}
}
