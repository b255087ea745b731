package program

import (
	"iter"
	"maps"
	"slices"

	"betrothal/api"
	"betrothal/fun"
)

// shift returns functions shifted by a number. All of them are checked before the first one is shifted, because an invalid one takes precedence.
func shift(by int, l ...api.Fun) []api.Fun {
	if by < 0 || by > api.MaxFuns {
		panic(fault{e: api.ErrArg})
	}
	for _, f := range l {
		if fun.Check(f) != api.OK {
			panic(fault{e: api.ErrFun})
		}
	}
	return each(func(f api.Fun) api.Fun { return shiftOne(by, f) }, l...)
}

// shiftOne returns a valid function shifted by a number.
func shiftOne(by int, f api.Fun) api.Fun {
	shifted := fun.Copy(f)
	for node, named := range fun.Calls(f) {
		if named+by >= api.MaxFuns {
			panic(fault{e: api.ErrLong})
		}
		shifted.Nodes[node].N = int64(named + by)
	}
	return shifted
}

// join returns a program followed by functions that are shifted by the number of its own.
func join(p api.Program, more ...api.Fun) api.Program {
	examine(p)
	many := len(p.Funs)
	// The list is cut, so that what lies behind the argument is not written to.
	joined := api.Program{Funs: append(p.Funs[:many:many], shift(many, more...)...)}
	examine(joined)
	return Copy(joined)
}

// each returns what is made of every item, in order.
func each[I any](of func(item I) I, l ...I) []I {
	var made []I
	for _, item := range l {
		made = append(made, of(item))
	}
	return made
}

// reach returns the functions that function 0 of a valid program reaches, each with its number of steps. They are followed in the order in which they are found, so that a function is found by a shortest way.
func reach(p api.Program) map[int]int {
	steps := map[int]int{0: 0}
	found := []int{0}
	for len(found) > 0 {
		number := found[0]
		found = found[1:]
		for _, named := range fun.Calls(p.Funs[number]) {
			if _, known := steps[named]; !known {
				steps[named] = steps[number] + 1
				found = append(found, named)
			}
		}
	}
	return steps
}

// rising visits the functions that are reached in increasing order, each with its number of steps.
func rising(steps map[int]int) iter.Seq2[int, int] {
	return func(yield func(int, int) bool) {
		for _, number := range slices.Sorted(maps.Keys(steps)) {
			if !yield(number, steps[number]) {
				return
			}
		}
	}
}
