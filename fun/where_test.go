package fun_test

import (
	"math"
	"slices"
	"strconv"
	"testing"

	"betrothal/api"
	"betrothal/fun"
)

// The examples of the chapter.
func TestExamples(t *testing.T) {
	add := node(api.OpAdd, 0, 1, 2)
	five := node(api.OpInt, 5)
	f := of(1, add, node(api.OpVar, 0), five)
	wantRight(t, "add", f)
	depth, e := fun.Depth(f, 1)
	wantNumber(t, "Depth", depth, e, 1)
	parent, e := fun.Parent(f, 2)
	wantNumber(t, "Parent", parent, e, 0)
	parent, e = fun.Parent(f, 0)
	wantNone(t, "Parent of the root", parent, e, api.ErrNone)
	want := []told{{1, int(api.OpVar)}, {2, int(api.OpInt)}, {0, int(api.OpAdd)}}
	if got := collect(fun.Order(f)); !slices.Equal(got, want) {
		t.Error(got)
	}
	wantWrong(t, "a variable", of(0, add, node(api.OpVar, 0), five), 1)
	wantWrong(t, "a child twice", of(0, node(api.OpAdd, 0, 1, 1), five), 0)
	wantWrong(t, "an orphan", of(0, five, unit()), 1)
	wantWrong(t, "no nodes", of(0), 0)
	wantWrong(t, "unit 1", of(0, node(api.OpUnit, 1)), 0)
	f = of(0, node(api.OpLet, 0, 1, 2), five, node(api.OpVar, 0))
	depth, e = fun.Depth(f, 1)
	wantNumber(t, "Depth of the value", depth, e, 0)
	depth, e = fun.Depth(f, 2)
	wantNumber(t, "Depth of the body", depth, e, 1)
	f = of(0, node(api.OpCall, 7, 1), node(api.OpSpawn, 3))
	if got := collect(fun.Calls(f)); !slices.Equal(got, []told{{0, 7}, {1, 3}}) {
		t.Error(got)
	}
}

// P6.1: functions at the edges of what is valid, and beyond them.
func TestWhere(t *testing.T) {
	for name, f := range sound() {
		wantRight(t, name, f)
	}
	for name, c := range faults() {
		wantWrong(t, name, c.f, c.at)
	}
}

// rule is what the chapter says of the nodes of an Op: the least and the greatest number and how many children.
type rule struct {
	least, greatest int64
	fewest, most    int
}

func rules(variables int) map[api.Op]rule {
	named := rule{0, 63, 0, 8}
	return map[api.Op]rule{
		1: {math.MinInt64, math.MaxInt64, 0, 0}, 2: {}, 3: {0, int64(variables) - 1, 0, 0},
		4: {0, 0, 2, 2}, 5: {0, 0, 3, 3},
		6: {0, 0, 2, 2}, 7: {0, 0, 2, 2}, 8: {0, 0, 2, 2}, 9: {0, 0, 2, 2}, 10: {0, 0, 2, 2},
		11: {0, 0, 1, 1}, 12: {0, 0, 1, 1}, 13: named, 14: named, 15: {}, 16: {0, 0, 2, 2},
		17: {0, 0, 1, 1}, 18: {0, 0, 1, 1}, 19: {}, 20: {0, 0, 0, 16}, 21: {0, 63, 1, 9},
		22: named, 23: named, 24: {0, 0, 1, 1},
	}
}

// P6.1: every Op, with numbers and children within and beyond its bounds, as the root and below it.
func TestShapes(t *testing.T) {
	numbers := []int64{0, 1, -1, 2, 3, 8, 9, 62, 63, 64, 65, 1 << 32, -1 << 32, 1<<32 + 1, math.MaxInt64, math.MinInt64}
	for _, params := range []int{0, 1, 3, 9} {
		known := rules(params)
		for op := api.Op(-2); op < 30; op++ {
			r, is := known[op]
			for _, n := range numbers {
				for many := range 19 {
					what := "Op " + strconv.Itoa(int(op)) + " " + strconv.FormatInt(n, 10) + " with " + strconv.Itoa(many)
					right := is && n >= r.least && n <= r.greatest && many >= r.fewest && many <= r.most
					root := of(params, slices.Concat([]api.Node{node(op, n, after(0, many)...)}, units(many))...)
					below := of(params, slices.Concat([]api.Node{node(api.OpFirst, 0, 1), node(op, n, after(1, many)...)}, units(many))...)
					if right {
						wantRight(t, what, root)
						wantRight(t, what+" below", below)
					} else {
						wantWrong(t, what, root, 0)
						wantWrong(t, what+" below", below, 1)
					}
				}
			}
		}
	}
}

// P6.1: Ops that are far from any.
func TestOps(t *testing.T) {
	for _, op := range []api.Op{math.MinInt, math.MaxInt, -1, 0, 25, 26, 256 + 2, 1<<32 + 2} {
		wantWrong(t, "Op "+strconv.Itoa(int(op)), of(0, node(op, 0)), 0)
		wantWrong(t, "Op "+strconv.Itoa(int(op))+" below", of(0, node(api.OpPair, 0, 1, 2), unit(), node(op, 0)), 2)
	}
}

// P6.1: the number of parameters, and the variables that they are.
func TestParams(t *testing.T) {
	for params := -2; params < 13; params++ {
		for n := int64(-1); n < 13; n++ {
			f := of(params, node(api.OpFirst, 0, 1), node(api.OpVar, n))
			what := strconv.Itoa(params) + " parameters, variable " + strconv.FormatInt(n, 10)
			switch {
			case params < 0 || params > 9:
				wantWrong(t, what, f, 0)
			case n < 0 || n >= int64(params):
				wantWrong(t, what, f, 1)
			default:
				wantRight(t, what, f)
			}
		}
	}
}

// P6.1: the number of nodes.
func TestNodes(t *testing.T) {
	for many := 1; many < 205; many++ {
		if f := chain(many); many <= 200 {
			wantRight(t, strconv.Itoa(many)+" nodes", f)
		} else {
			wantWrong(t, strconv.Itoa(many)+" nodes", f, 0)
		}
	}
}

// P6.1: the number of variables at a node; all of them may be used where there are not too many.
func TestVariables(t *testing.T) {
	for params := range 10 {
		for many := range 70 {
			f := lets(params, many)
			what := strconv.Itoa(params) + " parameters, lets " + strconv.Itoa(many)
			if params+many > 64 {
				wantWrong(t, what, f, 2*(65-params))
				continue
			}
			wantRight(t, what, f)
			body := len(f.Nodes) - 1
			f.Nodes[body] = node(api.OpVar, int64(params+many))
			wantWrong(t, what+", one variable too far", f, body)
			if params+many > 0 {
				f.Nodes[body] = node(api.OpVar, int64(params+many-1))
				wantRight(t, what+", the last variable", f)
			}
		}
	}
}
