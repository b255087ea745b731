package program_test

import (
	"math"
	"slices"
	"strconv"
	"testing"

	"betrothal/api"
	"betrothal/program"
)

// P7.2: Shift changes what all these nodes name, and nothing else.
func TestShift(t *testing.T) {
	f := of(3, node(api.OpChoose, 0, 1, 2, 3, 4, 5, 6, 7, 8), node(api.OpCall, 5), node(api.OpSpawn, 6), node(api.OpWrap, 7, 9), node(api.OpGuard, 8), node(api.OpNack, 0),
		node(api.OpInt, 3), node(api.OpVar, 2), node(api.OpFirst, 0, 10), unit(), node(api.OpCall, 1, 11), node(api.OpInt, -9))
	g := of(3, node(api.OpChoose, 0, 1, 2, 3, 4, 5, 6, 7, 8), node(api.OpCall, 45), node(api.OpSpawn, 46), node(api.OpWrap, 47, 9), node(api.OpGuard, 48), node(api.OpNack, 40),
		node(api.OpInt, 3), node(api.OpVar, 2), node(api.OpFirst, 0, 10), unit(), node(api.OpCall, 41, 11), node(api.OpInt, -9))
	got, e := program.Shift([]api.Fun{takes(9), f, takes(0), f}, 40)
	wantFuns(t, "by 40", got, e, takes(9), g, takes(0), g)
	got, e = program.Shift([]api.Fun{takes(9), f, takes(0), f}, 0)
	wantFuns(t, "by 0", got, e, takes(9), f, takes(0), f)
	for _, none := range [][]api.Fun{nil, {}} {
		for _, by := range []int{0, 1, 64} {
			got, e = program.Shift(none, by)
			wantFuns(t, "none", got, e)
		}
	}
	many := slices.Repeat([]api.Fun{calls(0, 2)}, 100)
	got, e = program.Shift(many, 1)
	wantFuns(t, "more than a program may have", got, e, slices.Repeat([]api.Fun{calls(0, 3)}, 100)...)
}

// P7.2: the numbers by which Shift shifts, and the numbers that come out, at their bounds.
func TestShiftBounds(t *testing.T) {
	for by := -2; by < 70; by++ {
		for _, op := range naming() {
			for named := int64(0); named < 64; named++ {
				what := "Op " + strconv.Itoa(int(op)) + " " + strconv.FormatInt(named, 10) + " by " + strconv.Itoa(by)
				got, e := program.Shift([]api.Fun{takes(0), passes(op, named, 1)}, by)
				switch {
				case by < 0 || by > 64:
					wantNone(t, what, got, e, api.ErrArg)
				case named+int64(by) > 63:
					wantNone(t, what, got, e, api.ErrLong)
				default:
					wantFuns(t, what, got, e, takes(0), passes(op, named+int64(by), 1))
				}
			}
		}
	}
	for _, by := range []int{0, 63, 64} {
		got, e := program.Shift([]api.Fun{takes(3)}, by)
		wantFuns(t, "by "+strconv.Itoa(by), got, e, takes(3))
	}
}

// P7.2: ErrArg before ErrFun before ErrLong, whichever function is wrong.
func TestShiftErrors(t *testing.T) {
	far, invalid := calls(0, 63), of(0, node(api.OpUnit, 1))
	for _, by := range []int{-1, 65, -64, 1 << 32, math.MinInt, math.MaxInt} {
		for _, l := range [][]api.Fun{nil, {takes(0)}, {far}, {invalid}, {far, invalid}} {
			got, e := program.Shift(l, by)
			wantNone(t, "by "+strconv.Itoa(by), got, e, api.ErrArg)
		}
	}
	for _, by := range []int{0, 1, 63, 64} {
		for _, l := range [][]api.Fun{{invalid}, {far, invalid}, {invalid, far}, {takes(0), takes(1), of(0)}, {of(-1, unit()), takes(0)}, {takes(0), calls(0, 64)}, {calls(0, -1)}} {
			got, e := program.Shift(l, by)
			wantNone(t, "invalid by "+strconv.Itoa(by), got, e, api.ErrFun)
		}
	}
	for _, l := range [][]api.Fun{{far}, {takes(0), far}, {far, takes(0)}, {calls(0, 0, 0, 63, 0)}} {
		got, e := program.Shift(l, 1)
		wantNone(t, "far by 1", got, e, api.ErrLong)
	}
}

// P7.2: Join appends functions that name one another, as one program.
func TestJoin(t *testing.T) {
	joined, e := program.Join(made(calls(0, 1), takes(0)), calls(0, 1, 2), takes(0), calls(0, 0))
	wantFuns(t, "three", joined.Funs, e, calls(0, 1), takes(0), calls(0, 3, 4), takes(0), calls(0, 2))
	joined, e = program.Join(made(calls(0, 1), takes(0)), takes(5), passes(api.OpNack, 0, 4))
	wantFuns(t, "with parameters", joined.Funs, e, calls(0, 1), takes(0), takes(5), passes(api.OpNack, 2, 4))
	for name, p := range sound() {
		joined, e = program.Join(p)
		wantFuns(t, name+" and none", joined.Funs, e, p.Funs...)
		joined, e = program.Join(p, []api.Fun{}...)
		wantFuns(t, name+" and none", joined.Funs, e, p.Funs...)
		n := len(p.Funs)
		joined, e = program.Join(p, p.Funs...)
		if 2*n > 64 {
			wantNone(t, name+" twice", joined.Funs, e, api.ErrLong)
			continue
		}
		wantFuns(t, name+" twice", joined.Funs, e, append(kept(p.Funs), shiftedBy(p.Funs, n)...)...)
	}
	joined, e = program.Join(ring(32), ring(32).Funs...)
	wantFuns(t, "64 functions", joined.Funs, e, append(ring(32).Funs, shiftedBy(ring(32).Funs, 32)...)...)
	joined, e = program.Join(ring(63), calls(2, 0))
	wantNone(t, "a misfit", joined.Funs, e, api.ErrProgram)
	joined, e = program.Join(ring(63), calls(0, 0))
	wantFuns(t, "63 and 1", joined.Funs, e, append(ring(63).Funs, calls(0, 63))...)
}

// shiftedBy is the definition of shifted functions.
func shiftedBy(l []api.Fun, by int) []api.Fun {
	m := kept(l)
	for _, f := range m {
		for i, n := range f.Nodes {
			if slices.Contains(naming(), n.Op) {
				f.Nodes[i].N += int64(by)
			}
		}
	}
	return m
}

// P7.2: the errors of Join, in their order.
func TestJoinErrors(t *testing.T) {
	invalid, misfit, far := of(0, node(api.OpUnit, 1)), calls(0, 1), calls(0, 63)
	for name, c := range faults() {
		for _, more := range [][]api.Fun{nil, {takes(0)}, {invalid}, {far}, {takes(1), takes(2)}} {
			joined, e := program.Join(c.p, more...)
			wantNone(t, name, joined.Funs, e, api.ErrProgram)
		}
	}
	for name, p := range sound() {
		for _, more := range [][]api.Fun{{invalid}, {far, invalid}, {invalid, far}, {misfit, invalid}, append(slices.Repeat([]api.Fun{takes(0)}, 64), invalid)} {
			joined, e := program.Join(p, more...)
			wantNone(t, name+", an invalid", joined.Funs, e, api.ErrFun)
		}
		for _, more := range [][]api.Fun{{far}, {misfit, far}, append(slices.Repeat([]api.Fun{takes(0)}, 64), far), {calls(0, int64(64-len(p.Funs)))}} {
			joined, e := program.Join(p, more...)
			wantNone(t, name+", a far one", joined.Funs, e, api.ErrLong)
		}
		for _, more := range [][]api.Fun{slices.Repeat([]api.Fun{takes(0)}, 65-len(p.Funs)), slices.Repeat([]api.Fun{takes(0)}, 100)} {
			joined, e := program.Join(p, more...)
			wantNone(t, name+", too many", joined.Funs, e, api.ErrProgram)
		}
	}
	f0, f1, _ := chapter()
	for _, more := range [][]api.Fun{{misfit}, {misfit, takes(1)}, {f0}, {f0, takes(2)}, {f1, f0}, {takes(0), calls(0, 2)}, {passes(api.OpNack, 0, 0)}, {calls(0, 61)}} {
		joined, e := program.Join(made(f0, f1), more...)
		wantNone(t, "a misfit", joined.Funs, e, api.ErrProgram)
	}
}

// P7.2: the functions that are returned share no memory with those passed, or with one another.
func TestShiftShares(t *testing.T) {
	wantApart(t, "Shift", func() ([]api.Fun, [][]api.Fun) {
		l := shared()
		got, e := program.Shift(l, 2)
		wantFuns(t, "Shift", got, e, shiftedBy(shared(), 2)...)
		return got, [][]api.Fun{l}
	})
	wantApart(t, "Join", func() ([]api.Fun, [][]api.Fun) {
		l := shared()
		got, e := program.Join(made(l...), l...)
		wantFuns(t, "Join", got.Funs, e, append(shared(), shiftedBy(shared(), 4)...)...)
		return got.Funs, [][]api.Fun{l}
	})
	wantApart(t, "Join of none", func() ([]api.Fun, [][]api.Fun) {
		l := shared()
		got, e := program.Join(made(l...))
		wantFuns(t, "Join of none", got.Funs, e, shared()...)
		return got.Funs, [][]api.Fun{l}
	})
}

// shared are functions whose nodes and children share their memory, with room behind them.
func shared() []api.Fun {
	room := []int{1, 2, 3, 4}
	f := of(0, node(api.OpPair, 0, room[:2]...), node(api.OpFirst, 0, 3), node(api.OpCall, 0), unit())
	g := of(0, node(api.OpChoose, 0, room[:3]...), node(api.OpSpawn, 1), node(api.OpGuard, 2), unit())
	l := []api.Fun{f, f, g, {Nodes: f.Nodes[3:]}, takes(3), takes(4)}
	return l[:4]
}

// What is passed to the functions is not changed, nor is what lies behind it.
func TestArguments(t *testing.T) {
	l, m := shared(), shared()
	p := made(l...)
	program.Check(p)
	program.Where(p)
	program.Shift(l, 3)
	program.Shift(l, 62)
	program.Join(p, m...)
	program.Join(p, takes(9))
	program.Join(p, calls(0, 5))
	collect(program.Reach(p))
	program.Size(p)
	program.Same(p, made(m...))
	spoil(program.Copy(p).Funs)
	for _, got := range [][]api.Fun{l, m} {
		if !alikeFuns(got[:cap(got)], append(shared(), takes(3), takes(4))) {
			t.Error(got[:cap(got)])
		}
	}
}
