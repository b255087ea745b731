package fun_test

import (
	"iter"
	"math"
	"slices"
	"testing"

	"betrothal/api"
	"betrothal/fun"
)

// node writes a node down.
func node(op api.Op, n int64, l ...int) api.Node {
	return api.Node{Op: op, N: n, L: l}
}

// of writes a function down.
func of(params int, l ...api.Node) api.Fun {
	return api.Fun{Params: params, Nodes: l}
}

// unit is the node that is valid as a child wherever there is room for one.
func unit() api.Node { return node(api.OpUnit, 0) }

// units are so many of them.
func units(many int) []api.Node { return slices.Repeat([]api.Node{unit()}, many) }

// after are so many numbers of nodes, the ones after a number.
func after(number, many int) []int {
	var l []int
	for i := range many {
		l = append(l, number+1+i)
	}
	return l
}

// chain is a function of so many nodes, each below the one before.
func chain(nodes int) api.Fun {
	f := of(0)
	for i := range nodes - 1 {
		f.Nodes = append(f.Nodes, node(api.OpFirst, 0, i+1))
	}
	f.Nodes = append(f.Nodes, unit())
	return f
}

// lets is a function of so many parameters and OpLets, each the body of the one before.
func lets(params, many int) api.Fun {
	f := of(params)
	for i := range many {
		f.Nodes = append(f.Nodes, node(api.OpLet, 0, 2*i+1, 2*i+2), unit())
	}
	f.Nodes = append(f.Nodes, unit())
	return f
}

// sound are valid functions by name.
func sound() map[string]api.Fun {
	return map[string]api.Fun{
		"unit":                 of(0, unit()),
		"empty lists":          of(0, api.Node{Op: api.OpUnit, L: []int{}}),
		"least number":         of(0, node(api.OpInt, math.MinInt64)),
		"greatest number":      of(0, node(api.OpInt, math.MaxInt64)),
		"most parameters":      of(api.MaxParams, node(api.OpVar, api.MaxParams-1)),
		"add 5":                of(1, node(api.OpAdd, 0, 1, 2), node(api.OpVar, 0), node(api.OpInt, 5)),
		"children in reverse":  of(1, node(api.OpSub, 0, 2, 1), node(api.OpVar, 0), node(api.OpInt, 5)),
		"let":                  of(0, node(api.OpLet, 0, 1, 2), node(api.OpInt, 5), node(api.OpVar, 0)),
		"let, the body first":  of(2, node(api.OpLet, 0, 2, 1), node(api.OpVar, 2), node(api.OpVar, 1)),
		"let within the value": of(0, node(api.OpLet, 0, 1, 2), node(api.OpLet, 0, 3, 4), node(api.OpVar, 0), unit(), node(api.OpVar, 0)),
		"if":                   of(0, node(api.OpIf, 0, 1, 3, 2), node(api.OpInt, 0), unit(), node(api.OpNever, 0)),
		"levels mixed":         of(0, node(api.OpPair, 0, 1, 2), node(api.OpPair, 0, 3, 5), node(api.OpFirst, 0, 4), unit(), node(api.OpInt, 7), node(api.OpChan, 0)),
		"calls":                of(1, node(api.OpCall, 7, 1, 2, 3), node(api.OpSpawn, 3), node(api.OpWrap, 0, 4, 5), node(api.OpSync, 0, 6), node(api.OpGuard, 63), node(api.OpInt, 9), node(api.OpNack, 63, 7), node(api.OpVar, 0)),
		"most arguments":       of(0, slices.Concat([]api.Node{node(api.OpCall, 0, after(0, api.MaxArgs)...)}, units(api.MaxArgs))...),
		"most of a wrap":       of(0, slices.Concat([]api.Node{node(api.OpWrap, 0, after(0, api.MaxArgs+1)...)}, units(api.MaxArgs+1))...),
		"most choices":         of(0, slices.Concat([]api.Node{node(api.OpChoose, 0, after(0, api.MaxChoose)...)}, units(api.MaxChoose))...),
		"most nodes":           chain(api.MaxNodes),
		"most variables":       lets(9, api.MaxDepth-9),
		"most lets":            lets(0, api.MaxDepth),
	}
}

// fault is a function that is wrong at a node.
type fault struct {
	f  api.Fun
	at int
}

// faults are wrong functions by name.
func faults() map[string]fault {
	add := node(api.OpAdd, 0, 1, 2)
	return map[string]fault{
		"nothing":                   {of(0), 0},
		"no nodes":                  {api.Fun{Params: 3, Nodes: []api.Node{}}, 0},
		"201 nodes":                 {chain(api.MaxNodes + 1), 0},
		"far too many nodes":        {chain(100000), 0},
		"-1 parameters":             {of(-1, unit()), 0},
		"10 parameters":             {of(api.MaxParams+1, unit()), 0},
		"least parameters":          {of(math.MinInt, unit()), 0},
		"greatest parameters":       {of(math.MaxInt, unit()), 0},
		"parameters and a node":     {of(10, add, unit(), node(api.OpUnit, 1)), 0},
		"no Op":                     {of(0, api.Node{}), 0},
		"unit 1":                    {of(0, node(api.OpUnit, 1)), 0},
		"no variable":               {of(0, add, node(api.OpVar, 0), node(api.OpInt, 5)), 1},
		"variable -1":               {of(1, add, node(api.OpInt, 5), node(api.OpVar, -1)), 2},
		"variable 1 of 1":           {of(1, add, node(api.OpInt, 5), node(api.OpVar, 1)), 2},
		"variable of the let":       {of(0, node(api.OpLet, 0, 1, 2), node(api.OpVar, 0), node(api.OpVar, 0)), 1},
		"variable 1 in the body":    {of(0, node(api.OpLet, 0, 1, 2), unit(), node(api.OpVar, 1)), 2},
		"variable out of the let":   {of(0, add, node(api.OpLet, 0, 3, 4), node(api.OpVar, 0), unit(), node(api.OpVar, 0)), 2},
		"child twice":               {of(0, node(api.OpAdd, 0, 1, 1), node(api.OpInt, 5)), 0},
		"child of two":              {of(0, add, node(api.OpFirst, 0, 3), node(api.OpFirst, 0, 3), unit()), 2},
		"child of two levels":       {of(0, add, node(api.OpFirst, 0, 2), unit()), 1},
		"child itself":              {of(0, node(api.OpFirst, 0, 0)), 0},
		"child itself, below":       {of(0, node(api.OpFirst, 0, 1), node(api.OpFirst, 0, 1)), 1},
		"child lower":               {of(0, add, unit(), node(api.OpFirst, 0, 1)), 2},
		"child the root":            {of(0, node(api.OpFirst, 0, 1), node(api.OpFirst, 0, 0)), 1},
		"child -1":                  {of(0, node(api.OpFirst, 0, -1), unit()), 0},
		"child not there":           {of(0, node(api.OpFirst, 0, 2), unit()), 0},
		"child least":               {of(0, add, unit(), node(api.OpFirst, 0, math.MinInt)), 2},
		"child greatest":            {of(0, add, unit(), node(api.OpFirst, 0, math.MaxInt)), 2},
		"second child not there":    {of(0, node(api.OpAdd, 0, 1, 3), unit(), unit()), 0},
		"orphan":                    {of(0, node(api.OpInt, 5), unit()), 1},
		"orphan before its parent":  {of(0, node(api.OpPair, 0, 2, 3), unit(), unit(), node(api.OpFirst, 0, 1)), 1},
		"orphans":                   {of(0, node(api.OpFirst, 0, 2), node(api.OpFirst, 0, 3), unit(), unit()), 1},
		"orphan among many":         {of(0, node(api.OpPair, 0, 1, 3), unit(), unit(), unit()), 2},
		"two wrong nodes":           {of(0, add, node(api.OpUnit, 3), node(api.OpInt, 5, 3)), 1},
		"wrong root and child":      {of(0, node(api.OpAdd, 1, 1, 2), node(api.OpUnit, 3), unit()), 0},
		"children of a unit":        {of(0, add, unit(), node(api.OpUnit, 0, 3), unit()), 2},
		"far too many children":     {of(0, node(api.OpChoose, 0, after(0, 100000)...), unit()), 0},
		"65 variables":              {lets(9, api.MaxDepth-8), 2 * (api.MaxDepth - 8)},
		"65 variables by lets":      {lets(0, api.MaxDepth+1), 2 * (api.MaxDepth + 1)},
		"66 variables, the lets":    {lets(0, api.MaxDepth+2), 2 * (api.MaxDepth + 1)},
		"far more variables":        {lets(9, 95), 2 * (api.MaxDepth - 8)},
		"65 variables and an Op":    {of(9, append(lets(9, api.MaxDepth-8).Nodes[:111:111], node(api.OpUnit, 1), unit())...), 111},
		"first of two wrong places": {of(0, node(api.OpPair, 0, 1, 2), node(api.OpFirst, 0, 9), node(api.OpFirst, 0, 9)), 1},
	}
}

// all are all of them.
func all() map[string]api.Fun {
	l := sound()
	for name, c := range faults() {
		l[name] = c.f
	}
	return l
}

// alike compares functions in full, without a call of the package.
func alike(a, b api.Fun) bool {
	return a.Params == b.Params && slices.EqualFunc(a.Nodes, b.Nodes, func(x, y api.Node) bool {
		return x.Op == y.Op && x.N == y.N && slices.Equal(x.L, y.L)
	})
}

// told is what an iterator tells of one node: its number, and its Op or the number of its function.
type told struct {
	number int
	what   int
}

func collect[T ~int](s iter.Seq2[int, T]) []told {
	var l []told
	for number, what := range s {
		l = append(l, told{number, int(what)})
	}
	return l
}

// spoil overwrites the memory of a function, also behind its lists.
func spoil(f api.Fun) {
	l := f.Nodes[:cap(f.Nodes)]
	for i := range l {
		children := l[i].L[:cap(l[i].L)]
		for j := range children {
			children[j] = -7
		}
		l[i] = node(api.OpNack, -7, -7)
	}
}

func wantNumber(t *testing.T, what string, got int, e api.Errno, want int) {
	t.Helper()
	if e != api.OK || got != want {
		t.Errorf("%s: %d, error %d, not %d", what, got, e, want)
	}
}

func wantNone(t *testing.T, what string, got int, e, want api.Errno) {
	t.Helper()
	if e != want || got != 0 {
		t.Errorf("%s: %d, error %d, not error %d", what, got, e, want)
	}
}

// wantWrong demands that a function is wrong at a node.
func wantWrong(t *testing.T, what string, f api.Fun, at int) {
	t.Helper()
	if got, e := fun.Where(f); got != at || e != api.ErrFun {
		t.Errorf("%s: wrong at %d, error %d, not wrong at %d", what, got, e, at)
	}
	if e := fun.Check(f); e != api.ErrFun {
		t.Errorf("%s: error %d", what, e)
	}
}

// wantRight demands that a function is valid.
func wantRight(t *testing.T, what string, f api.Fun) {
	t.Helper()
	at, e := fun.Where(f)
	wantNumber(t, what, at, e, 0)
	if e := fun.Check(f); e != api.OK {
		t.Errorf("%s: error %d", what, e)
	}
}
