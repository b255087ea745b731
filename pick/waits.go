package pick

import (
	"iter"
	"maps"
	"slices"

	"betrothal/api"
)

// The places of a thread's counters.
const (
	waiting = iota // the turns for which it waits now
	longest        // its longest wait
	went           // the turns in which it took the step
	seen           // the number of turns up to the last one in which it was runnable
	places
)

// counters are what is counted of one thread.
type counters [places]int

// count counts a turn in which the thread is runnable.
func (c counters) count(v view, thread int) counters {
	if c[seen] != v.at { // it was not runnable in the turn before, or there is none
		c[waiting] = 0
	}
	c[seen] = v.at + 1
	if v.Took == thread {
		c[went]++
		c[waiting] = 0
		return c
	}
	c[waiting]++
	c[longest] = max(c[longest], c[waiting])
	return c
}

// countAll counts all turns, for every thread that is runnable in one of them.
func countAll(l ...api.Turn) map[int]counters {
	waits := map[int]counters{}
	for v, thread := range threads(l...) {
		waits[thread] = waits[thread].count(v, thread)
	}
	return waits
}

// collect returns what is made of each thread's counters, in the order of the threads.
func collect[T any](waits map[int]counters, made func(thread int, c counters) T) []T {
	var all []T
	for _, thread := range slices.Sorted(maps.Keys(waits)) {
		all = append(all, made(thread, waits[thread]))
	}
	return all
}

// tell returns an iterator over the threads, each with the counter at that place.
func tell(waits map[int]counters, place int) iter.Seq2[int, int] {
	pairs := collect(waits, func(thread int, c counters) [2]int {
		return [2]int{thread, c[place]}
	})
	return func(yield func(int, int) bool) {
		for _, pair := range pairs {
			if !yield(pair[0], pair[1]) {
				return
			}
		}
	}
}

// Fair reports whether turns are fair for a window.
func Fair(w int, l ...api.Turn) (fair bool) {
	defer func() {
		if _, is := raisedAt(recover()); is {
			fair = false
		}
	}()
	if w < 1 {
		return false
	}
	waits := map[int]counters{}
	fair = true
watching:
	for v, thread := range threads(l...) {
		waits[thread] = waits[thread].count(v, thread)
		if waits[thread][waiting] >= w {
			fair = false
			break watching
		}
	}
	return fair
}

// Waits returns an iterator over the threads and their longest waits.
func Waits(l ...api.Turn) (told iter.Seq2[int, int]) {
	defer func() {
		if _, is := raisedAt(recover()); is {
			told = tell(nil, longest)
		}
	}()
	return tell(countAll(l...), longest)
}

// Went returns an iterator over the threads and the numbers of their turns.
func Went(l ...api.Turn) (told iter.Seq2[int, int]) {
	defer func() {
		if _, is := raisedAt(recover()); is {
			told = tell(nil, went)
		}
	}()
	return tell(countAll(l...), went)
}
