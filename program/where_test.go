package program_test

import (
	"slices"
	"strconv"
	"testing"

	"betrothal/api"
	"betrothal/program"
)

// The examples of the chapter.
func TestExamples(t *testing.T) {
	f0, f1, f2 := chapter()
	wantRight(t, "f0, f1", made(f0, f1))
	wantWrong(t, "f0", made(f0), 0, 0)
	wantWrong(t, "f0, f2", made(f0, f2), 0, 0)
	wantWrong(t, "f1", made(f1), 0, 0)
	wantWrong(t, "none", made(), 0, 0)
	wantWrong(t, "f0, unit 1", made(f0, of(0, node(api.OpUnit, 1))), 1, 0)
	if got := collect(program.Reach(made(f0, f1, f2))); !slices.Equal(got, []told{{0, 0}, {1, 1}}) {
		t.Error(got)
	}
	if n := program.Size(made(f0, f1)); n != 3 {
		t.Error(n)
	}
	shifted, e := program.Shift([]api.Fun{f0}, 2)
	wantFuns(t, "f0 by 2", shifted, e, of(0, node(api.OpCall, 3, 1), node(api.OpInt, 5)))
	shifted, e = program.Shift([]api.Fun{f0}, 63)
	wantNone(t, "f0 by 63", shifted, e, api.ErrLong)
	shifted, e = program.Shift([]api.Fun{f0}, -1)
	wantNone(t, "f0 by -1", shifted, e, api.ErrArg)
	joined, e := program.Join(made(f0, f1), f0, f1)
	wantFuns(t, "joined", joined.Funs, e, f0, f1, of(0, node(api.OpCall, 3, 1), node(api.OpInt, 5)), f1)
}

// P7.1: programs at the edges of what is valid, and beyond them.
func TestWhere(t *testing.T) {
	for name, p := range sound() {
		wantRight(t, name, p)
	}
	for name, c := range faults() {
		wantWrong(t, name, c.p, c.fun, c.node)
	}
}

// P7.1: the number of functions.
func TestFunctions(t *testing.T) {
	for many := 1; many < 70; many++ {
		what := strconv.Itoa(many) + " functions"
		l := slices.Repeat([]api.Fun{takes(0)}, many)
		if many <= 64 {
			wantRight(t, what, made(l...))
			if many < 64 {
				l[many-1] = calls(0, 0, int64(many))
				wantWrong(t, what+", one too far", made(l...), many-1, 2)
			}
			l[many-1] = calls(0, 0, int64(many-1))
			wantRight(t, what+", the last one", made(l...))
		} else {
			wantWrong(t, what, made(l...), 0, 0)
			l[0] = takes(1)
			wantWrong(t, what+", with parameters", made(l...), 0, 0)
			l[3] = of(0, unit(), unit())
			wantWrong(t, what+", an invalid one", made(l...), 0, 0)
		}
	}
}

// P7.1: only function 0 may not have parameters.
func TestParameters(t *testing.T) {
	for params := range 10 {
		what := strconv.Itoa(params) + " parameters"
		wantRight(t, what, made(takes(0), takes(params)))
		if params > 0 {
			wantWrong(t, what, made(takes(params), takes(0)), 0, 0)
		}
	}
	for _, params := range []int{-1, 10} {
		wantWrong(t, strconv.Itoa(params)+" parameters", made(takes(0), takes(params)), 1, 0)
	}
}

// P7.1: every Op with every number of children, and a function with every number of parameters; the node is neither the root, nor is its function the first one.
func TestFits(t *testing.T) {
	for _, op := range naming() {
		for many := range 12 {
			for params := range 10 {
				f := of(0, slices.Concat([]api.Node{node(api.OpFirst, 0, 1), node(op, 2, after(1, many)...)}, units(many))...)
				p := made(takes(0), f, takes(params))
				what := "Op " + strconv.Itoa(int(op)) + " with " + strconv.Itoa(many) + " for " + strconv.Itoa(params)
				right := many <= 8 && params == many
				switch op {
				case api.OpWrap:
					right = many >= 1 && many <= 9 && params == many
				case api.OpNack:
					right = many <= 8 && params == many+1
				}
				if right {
					wantRight(t, what, p)
				} else {
					wantWrong(t, what, p, 1, 1)
				}
			}
		}
	}
}

// P7.1: numbers of functions that exist, that do not exist, and that cannot exist; other Ops name none.
func TestNumbers(t *testing.T) {
	for _, op := range naming() {
		for named := int64(-2); named < 70; named++ {
			f := passes(op, named, 1)
			params := 1
			if op == api.OpNack {
				params = 2
			}
			p := made(takes(0), takes(params), takes(params), f)
			what := "Op " + strconv.Itoa(int(op)) + " " + strconv.FormatInt(named, 10)
			if named == 1 || named == 2 {
				wantRight(t, what, p)
			} else {
				wantWrong(t, what, p, 3, 0)
			}
		}
	}
	for number := int64(-70); number < 70; number++ {
		wantRight(t, "number "+strconv.FormatInt(number, 10), made(of(0, node(api.OpInt, number))))
	}
	wantRight(t, "variables", made(takes(0), of(9, node(api.OpAdd, 0, 1, 2), node(api.OpVar, 7), node(api.OpVar, 8))))
	wantRight(t, "shapes", made(of(0, node(api.OpSync, 0, 1), node(api.OpSend, 0, 2, 3), node(api.OpChan, 0), unit())))
}
