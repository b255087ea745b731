package program_test

import (
	"iter"
	"math"
	"slices"
	"testing"

	"betrothal/api"
	"betrothal/fun"
	"betrothal/program"
)

// node writes a node down.
func node(op api.Op, n int64, l ...int) api.Node {
	return api.Node{Op: op, N: n, L: l}
}

// of writes a function down.
func of(params int, l ...api.Node) api.Fun {
	return api.Fun{Params: params, Nodes: l}
}

// made writes a program down.
func made(l ...api.Fun) api.Program { return api.Program{Funs: l} }

func unit() api.Node { return node(api.OpUnit, 0) }

// units are so many nodes that may stand wherever there is room for one.
func units(many int) []api.Node { return slices.Repeat([]api.Node{unit()}, many) }

// after are so many numbers of nodes, the ones after a number.
func after(number, many int) []int {
	var l []int
	for i := range many {
		l = append(l, number+1+i)
	}
	return l
}

// takes is a function that names none.
func takes(params int) api.Fun { return of(params, unit()) }

// passes is a function whose root names a function and has so many children.
func passes(op api.Op, named int64, many int) api.Fun {
	return of(0, slices.Concat([]api.Node{node(op, named, after(0, many)...)}, units(many))...)
}

// calls is a function of some parameters that calls functions without parameters.
func calls(params int, named ...int64) api.Fun {
	f := of(params, node(api.OpChoose, 0, after(0, len(named))...))
	for _, one := range named {
		f.Nodes = append(f.Nodes, node(api.OpCall, one))
	}
	return f
}

// ring are so many functions, of which each one calls the next, and the last one the first.
func ring(many int) api.Program {
	var p api.Program
	for i := range many {
		p.Funs = append(p.Funs, calls(0, int64((i+1)%many)))
	}
	return p
}

// chapter are the functions of the chapter's examples.
func chapter() (f0, f1, f2 api.Fun) {
	return of(0, node(api.OpCall, 1, 1), node(api.OpInt, 5)), of(1, node(api.OpVar, 0)), of(0, unit())
}

// naming are the Ops of the nodes that name functions.
func naming() []api.Op {
	return []api.Op{api.OpCall, api.OpSpawn, api.OpWrap, api.OpGuard, api.OpNack}
}

// every is a program in which nodes of all these Ops name functions, with and without arguments.
func every() api.Program {
	return made(
		of(0, node(api.OpChoose, 0, 1, 2, 3, 4, 5), node(api.OpCall, 1, 6, 7), node(api.OpSpawn, 0), node(api.OpWrap, 1, 8, 9), node(api.OpGuard, 2, 10), node(api.OpNack, 2),
			unit(), unit(), unit(), unit(), node(api.OpNack, 1, 11), unit()),
		of(2, node(api.OpSpawn, 3)),
		of(1, node(api.OpGuard, 0)),
		of(0, node(api.OpWrap, 2, 1), node(api.OpNever, 0)),
	)
}

// sound are valid programs by name.
func sound() map[string]api.Program {
	f0, f1, f2 := chapter()
	return map[string]api.Program{
		"chapter":         made(f0, f1),
		"not reached":     made(f0, f1, f2),
		"unit":            made(takes(0)),
		"itself":          made(calls(0, 0)),
		"every Op":        every(),
		"most functions":  ring(api.MaxFuns),
		"63 functions":    ring(api.MaxFuns - 1),
		"ring of two":     ring(2),
		"most arguments":  made(passes(api.OpCall, 1, 8), takes(8), passes(api.OpWrap, 3, 9), takes(9), passes(api.OpNack, 3, 8)),
		"shorter way":     made(calls(0, 1, 3), calls(0, 2), calls(0, 3), calls(0, 4), calls(0, 0)),
		"shorter way on":  made(calls(0, 4, 1), calls(0, 2), calls(0, 3), calls(0, 5), calls(0, 3), calls(0)),
		"only unreached":  made(takes(0), calls(0, 0, 2), calls(0, 1)),
		"twice":           made(calls(0, 2, 2, 0, 2), calls(9), calls(0, 2)),
		"empty lists":     made(api.Fun{Nodes: []api.Node{{Op: api.OpUnit, L: []int{}}}}),
		"numbers of 63":   made(of(0, node(api.OpAdd, 0, 1, 2), node(api.OpInt, 63), node(api.OpInt, -1))),
		"many parameters": made(takes(0), takes(9), takes(3)),
	}
}

// fault is a program that is wrong at a node.
type fault struct {
	p         api.Program
	fun, node int
}

// faults are wrong programs by name.
func faults() map[string]fault {
	f0, f1, f2 := chapter()
	bad := of(0, node(api.OpPair, 0, 1, 2), unit(), node(api.OpUnit, 1))
	late := of(0, node(api.OpPair, 0, 2, 1), node(api.OpCall, 9), node(api.OpCall, 8))
	return map[string]fault{
		"none":                        {made(), 0, 0},
		"empty":                       {api.Program{Funs: []api.Fun{}}, 0, 0},
		"no function 1":               {made(f0), 0, 0},
		"function 1 without":          {made(f0, f2), 0, 0},
		"function 0 with":             {made(f1), 0, 0},
		"invalid":                     {made(f0, of(0, node(api.OpUnit, 1))), 1, 0},
		"65 functions":                {made(slices.Repeat([]api.Fun{takes(0)}, 65)...), 0, 0},
		"far too many functions":      {made(slices.Repeat([]api.Fun{takes(0)}, 100000)...), 0, 0},
		"65 functions, an invalid":    {made(append(slices.Repeat([]api.Fun{takes(0)}, 64), bad)...), 0, 0},
		"65 functions, all invalid":   {made(slices.Repeat([]api.Fun{bad}, 65)...), 0, 0},
		"all invalid":                 {made(slices.Repeat([]api.Fun{bad}, 64)...), 0, 2},
		"no nodes":                    {made(of(0)), 0, 0},
		"no nodes, later":             {made(takes(0), of(0)), 1, 0},
		"invalid last":                {made(append(slices.Repeat([]api.Fun{takes(0)}, 63), bad)...), 63, 2},
		"invalid twice":               {made(takes(0), bad, of(-1, unit())), 1, 2},
		"invalid after a misfit":      {made(calls(0, 9), takes(0), bad), 2, 2},
		"invalid after parameters":    {made(takes(2), takes(0), bad), 2, 2},
		"invalid function 0":          {made(bad), 0, 2},
		"invalid function 0, with":    {made(of(1, bad.Nodes...)), 0, 2},
		"parameters before a misfit":  {made(calls(1, 0, 9), takes(0)), 0, 0},
		"parameters before a later":   {made(takes(9), late), 0, 0},
		"misfit of parameters":        {made(calls(0, 1), takes(1)), 0, 1},
		"misfit of none":              {made(takes(0), takes(3), passes(api.OpSpawn, 0, 1)), 2, 0},
		"misfit at the second":        {made(calls(0, 0, 1, 2), takes(0)), 0, 3},
		"misfit, children in reverse": {made(late), 0, 1},
		"misfit in two":               {made(calls(0, 0, 0, 7), late), 0, 3},
		"misfit in a later":           {made(calls(0, 0), calls(0, 1), late), 2, 1},
		"misfit in the last":          {made(append(slices.Repeat([]api.Fun{takes(0)}, 63), calls(5, 63))...), 63, 1},
		"misfit not reached":          {made(takes(0), calls(0, 63)), 1, 1},
		"function 63 of 63":           {made(append(slices.Repeat([]api.Fun{takes(0)}, 62), calls(0, 62, 63))...), 62, 2},
		"nack as a call":              {made(passes(api.OpNack, 1, 1), takes(1)), 0, 0},
		"nack of none":                {made(passes(api.OpNack, 0, 0)), 0, 0},
		"call as a nack":              {made(passes(api.OpCall, 1, 1), takes(2)), 0, 0},
		"wrap without its event":      {made(passes(api.OpWrap, 1, 2), takes(1)), 0, 0},
		"wrap of none":                {made(passes(api.OpWrap, 1, 1), takes(0)), 0, 0},
	}
}

// all are all of them.
func all() map[string]api.Program {
	l := sound()
	for name, c := range faults() {
		l[name] = c.p
	}
	l["far from any"] = made(of(math.MinInt, node(math.MaxInt, math.MinInt64, math.MaxInt, math.MinInt), api.Node{}), of(0), takes(math.MaxInt))
	return l
}

// alikeFuns compares functions in full, without a call of the package.
func alikeFuns(a, b []api.Fun) bool { return slices.EqualFunc(a, b, fun.Same) }

func alike(a, b api.Program) bool { return alikeFuns(a.Funs, b.Funs) }

// told is what an iterator tells of one function.
type told struct{ number, steps int }

func collect(s iter.Seq2[int, int]) []told {
	var l []told
	for number, steps := range s {
		l = append(l, told{number, steps})
	}
	return l
}

// kept returns functions that share nothing with those given.
func kept(l []api.Fun) []api.Fun {
	m := slices.Clone(l)
	for i := range m {
		m[i] = fun.Copy(m[i])
	}
	return m
}

// spoil overwrites the memory of functions, also behind their lists.
func spoil(l []api.Fun) {
	l = l[:cap(l)]
	for i := range l {
		nodes := l[i].Nodes[:cap(l[i].Nodes)]
		for j := range nodes {
			children := nodes[j].L[:cap(nodes[j].L)]
			for k := range children {
				children[k] = -7
			}
			nodes[j] = node(api.OpNack, -7, -7)
		}
		l[i] = of(-7, node(api.OpNack, -7))
	}
}

// attempt makes arguments, and the result of a call with them.
type attempt func() (result []api.Fun, arguments [][]api.Fun)

// wantApart demands that a result is new memory: it stays as it is when the arguments are spoiled, they stay as they are when it is spoiled, and its functions do not follow one another.
func wantApart(t *testing.T, what string, try attempt) {
	t.Helper()
	result, arguments := try()
	was := kept(result)
	for _, l := range arguments {
		spoil(l)
	}
	if !alikeFuns(result, was) {
		t.Errorf("%s: the result follows the arguments", what)
	}
	result, arguments = try()
	var before [][]api.Fun
	for _, l := range arguments {
		before = append(before, kept(l[:cap(l)]))
	}
	spoil(result)
	for i, l := range arguments {
		if !alikeFuns(l[:cap(l)], before[i]) {
			t.Errorf("%s: argument %d follows the result", what, i)
		}
	}
	for i := range was {
		result, _ = try()
		spoil(result[i : i+1 : i+1])
		if !alikeFuns(result[:i], was[:i]) || !alikeFuns(result[i+1:], was[i+1:]) {
			t.Errorf("%s: others follow function %d", what, i)
		}
	}
	wantNodesApart(t, what, try)
}

// wantNodesApart demands that the children of a node follow no other node.
func wantNodesApart(t *testing.T, what string, try attempt) {
	t.Helper()
	result, _ := try()
	was := kept(result)
	for i, f := range result {
		for j := range f.Nodes {
			l := f.Nodes[j].L
			for k := range l[:cap(l)] {
				l[:cap(l)][k] = -7
			}
			f.Nodes[j].L = was[i].Nodes[j].L
			if !alikeFuns(result, was) {
				t.Fatalf("%s: others follow node %d of function %d", what, j, i)
			}
		}
	}
}

// wantWrong demands that a program is wrong at a node.
func wantWrong(t *testing.T, what string, p api.Program, fun, node int) {
	t.Helper()
	if f, n, e := program.Where(p); f != fun || n != node || e != api.ErrProgram {
		t.Errorf("%s: wrong at %d, %d, error %d, not wrong at %d, %d", what, f, n, e, fun, node)
	}
	if e := program.Check(p); e != api.ErrProgram {
		t.Errorf("%s: error %d", what, e)
	}
}

// wantRight demands that a program is valid.
func wantRight(t *testing.T, what string, p api.Program) {
	t.Helper()
	if f, n, e := program.Where(p); f != 0 || n != 0 || e != api.OK {
		t.Errorf("%s: wrong at %d, %d, error %d", what, f, n, e)
	}
	if e := program.Check(p); e != api.OK {
		t.Errorf("%s: error %d", what, e)
	}
}

// wantFuns demands the functions of a result.
func wantFuns(t *testing.T, what string, got []api.Fun, e api.Errno, want ...api.Fun) {
	t.Helper()
	if e != api.OK || !alikeFuns(got, want) {
		t.Errorf("%s: %v, error %d, not %v", what, got, e, want)
	}
}

// wantNone demands an error, and nothing else.
func wantNone(t *testing.T, what string, got []api.Fun, e, want api.Errno) {
	t.Helper()
	if e != want || len(got) != 0 {
		t.Errorf("%s: %d functions, error %d, not error %d", what, len(got), e, want)
	}
}
