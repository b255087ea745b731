package pick

import (
	"iter"
	"slices"

	"betrothal/api"
)

// invalid is what is raised for an invalid turn: the index of that turn.
type invalid int

// view looks at the turns of a sequence one after the other: at one of them, and at those behind it.
type view struct {
	api.Turn
	at   int
	rest []api.Turn
}

// before looks at a place before the first turn.
func before(l ...api.Turn) view {
	return view{at: -1, rest: l}
}

// step goes to the next turn, raises it if it is invalid, and reports whether there is one.
func (v *view) step() bool {
	n := len(v.rest)
	if n == 0 {
		return false
	}
	v.at++
	v.Turn, v.rest = v.rest[0], v.rest[1:n:n]
	if !v.valid() {
		panic(invalid(v.at))
	}
	return true
}

// valid reports whether the turn that is looked at is valid.
func (v *view) valid() bool {
	last := -1
	for _, thread := range v.Runs {
		if thread <= last {
			return false
		}
		last = thread
	}
	return slices.Contains(v.Runs, v.Took)
}

// threads visits the runnable threads of the turns, each with the view of its turn, and raises the first invalid turn that it comes to.
func threads(l ...api.Turn) iter.Seq2[view, int] {
	return func(yield func(view, int) bool) {
		v := before(l...)
		for v.step() {
			for _, thread := range v.Runs {
				if !yield(v, thread) {
					return
				}
			}
		}
	}
}

// raisedAt returns the index of the turn that was raised, and whether one was; what else was raised is raised again, because it is no turn's fault.
func raisedAt(raised any) (int, bool) {
	if raised == nil {
		return 0, false
	}
	at, is := raised.(invalid)
	if !is {
		panic(raised)
	}
	return int(at), true
}

// Check reports whether turns are valid.
func Check(l ...api.Turn) (at int, e api.Errno) {
	defer func() {
		if wrong, is := raisedAt(recover()); is {
			at, e = wrong, api.ErrArg
		}
	}()
	v := before(l...)
	for v.step() {
	}
	return 0, api.OK
}

// Round returns turns in round-robin order.
func Round(n, turns int) ([]api.Turn, api.Errno) {
	if n < 1 || turns < 0 || n > api.MaxRound || turns > api.MaxRound {
		return nil, api.ErrArg
	}
	l := make([]api.Turn, turns)
	for at := range l {
		l[at] = api.Turn{Runs: upTo(n), Took: at % n}
	}
	return l, api.OK
}

// upTo returns the threads from 0 to n - 1.
func upTo(n int) []int {
	runs := make([]int, n)
	for thread := range runs {
		runs[thread] = thread
	}
	return runs
}
