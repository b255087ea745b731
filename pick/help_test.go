package pick_test

import (
	"iter"
	"math"
	"slices"
	"testing"

	"betrothal/api"
)

// pair is what an iterator tells of one thread.
type pair [2]int

func collect(s iter.Seq2[int, int]) []pair {
	var l []pair
	for thread, n := range s {
		l = append(l, pair{thread, n})
	}
	return l
}

// turn returns a turn.
func turn(took int, runs ...int) api.Turn {
	return api.Turn{Runs: runs, Took: took}
}

// wrong are turns that are not valid.
func wrong() map[string]api.Turn {
	return map[string]api.Turn{
		"zero":               {},
		"none runnable":      turn(0),
		"empty":              {Runs: []int{}, Took: 0},
		"not runnable":       turn(2, 0, 1),
		"took between":       turn(1, 0, 2),
		"took negative":      turn(-1, 0, 1),
		"decreasing":         turn(1, 1, 0),
		"equal":              turn(0, 0, 0),
		"equal at the end":   turn(0, 0, 1, 2, 2),
		"decreasing further": turn(5, 3, 5, 4),
		"negative":           turn(-1, -1, 0),
		"negative runnable":  turn(0, -1, 0),
		"least":              turn(0, math.MinInt, 0),
		"only negative":      turn(-1, -1),
	}
}

// numbers yields a fixed sequence of numbers.
type numbers uint64

func (n *numbers) below(most int) int {
	*n = *n*6364136223846793005 + 1442695040888963407
	return int(uint64(*n>>33) % uint64(most))
}

// turns makes valid turns of some threads.
func (n *numbers) turns(count, threads int) []api.Turn {
	var l []api.Turn
	for range count {
		var runs []int
		for thread := range threads {
			if n.below(4) > 0 {
				runs = append(runs, thread*3)
			}
		}
		if len(runs) == 0 {
			runs = []int{3 * n.below(threads)}
		}
		l = append(l, turn(runs[n.below(len(runs))], runs...))
	}
	return l
}

// copied returns turns that share nothing with those given.
func copied(l []api.Turn) []api.Turn {
	m := slices.Clone(l)
	for i := range m {
		m[i].Runs = slices.Clone(m[i].Runs)
	}
	return m
}

func sameTurns(a, b []api.Turn) bool {
	return slices.EqualFunc(a, b, func(x, y api.Turn) bool {
		return x.Took == y.Took && slices.Equal(x.Runs, y.Runs)
	})
}

func wantPairs(t *testing.T, what string, got, want []pair) {
	t.Helper()
	if !slices.Equal(got, want) {
		t.Errorf("%s: %v, not %v", what, got, want)
	}
}
