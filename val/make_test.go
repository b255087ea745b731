package val_test

import (
	"math"
	"slices"
	"testing"

	"betrothal/api"
	"betrothal/val"
)

// P4.3: Make returns the value, or ErrVal.
func TestMake(t *testing.T) {
	for name, v := range valid() {
		made, e := val.Make(v.Kind, v.N, v.L...)
		wantVal(t, name, made, e, v)
	}
	for name, v := range invalid() {
		made, e := val.Make(v.Kind, v.N, v.L...)
		wantNone(t, name, made, e, api.ErrVal)
	}
}

// P4.3: the values that are always valid.
func TestConstants(t *testing.T) {
	wantVal(t, "Unit", val.Unit(), api.OK, unit())
	wantVal(t, "Never", val.Never(), api.OK, never())
	for _, n := range []int64{0, 1, -1, 77, math.MinInt64, math.MaxInt64} {
		wantVal(t, "Int", val.Int(n), api.OK, number(n))
	}
}

// P4.3: channels and conditions have numbers from 0 on.
func TestNumbered(t *testing.T) {
	for _, n := range []int64{0, 1, 5, math.MaxInt64} {
		v, e := val.Chan(n)
		wantVal(t, "Chan", v, e, channel(n))
		v, e = val.Cond(n)
		wantVal(t, "Cond", v, e, of(api.ValCond, n))
	}
	for _, n := range []int64{-1, -5, math.MinInt64} {
		v, e := val.Chan(n)
		wantNone(t, "Chan", v, e, api.ErrVal)
		v, e = val.Cond(n)
		wantNone(t, "Cond", v, e, api.ErrVal)
	}
}

// P4.3: pairs and the events of a channel or of a value, for all values.
func TestBases(t *testing.T) {
	c := channel(7)
	for name, x := range valid() {
		if val.Size(x)+2 > api.MaxVal {
			continue
		}
		v, e := val.Pair(x, c)
		wantVal(t, "Pair of "+name, v, e, pair(x, c))
		v, e = val.Pair(c, x)
		wantVal(t, "Pair with "+name, v, e, pair(c, x))
		v, e = val.Send(c, x)
		wantVal(t, "Send of "+name, v, e, of(api.ValSend, 0, c, x))
		v, e = val.Always(x)
		wantVal(t, "Always of "+name, v, e, of(api.ValAlways, 0, x))
		v, e = val.Recv(x)
		if x.Kind == api.ValChan {
			wantVal(t, "Recv from "+name, v, e, of(api.ValRecv, 0, x))
			v, e = val.Send(x, unit())
			wantVal(t, "Send over "+name, v, e, of(api.ValSend, 0, x, unit()))
			continue
		}
		wantNone(t, "Recv from "+name, v, e, api.ErrVal)
		v, e = val.Send(x, unit())
		wantNone(t, "Send over "+name, v, e, api.ErrVal)
	}
}

// P4.3: choices, and functions with their arguments.
func TestLists(t *testing.T) {
	recv := of(api.ValRecv, 0, channel(0))
	args := []api.Val{number(1), unit(), never(), channel(2), pair(unit(), unit()), recv, number(2), number(3)}
	for n := range api.MaxChoose + 1 {
		l := append(many(n/2, never()), many(n-n/2, recv)...)
		v, e := val.Choose(l...)
		wantVal(t, "Choose", v, e, of(api.ValChoose, 0, l...))
	}
	for n := range api.MaxArgs + 1 {
		for _, f := range []int64{0, 1, 62, 63} {
			v, e := val.Wrap(f, recv, args[:n]...)
			wantVal(t, "Wrap", v, e, of(api.ValWrap, f, slices.Concat([]api.Val{recv}, args[:n])...))
			v, e = val.Guard(f, args[:n]...)
			wantVal(t, "Guard", v, e, of(api.ValGuard, f, args[:n]...))
			v, e = val.Nack(f, args[:n]...)
			wantVal(t, "Nack", v, e, of(api.ValNack, f, args[:n]...))
		}
	}
}

// P4.3: choices, and functions with their arguments, that are not valid.
func TestListsInvalid(t *testing.T) {
	made := func(v api.Val, e api.Errno) {
		t.Helper()
		wantNone(t, "made", v, e, api.ErrVal)
	}
	made(val.Choose(many(api.MaxChoose+1, never())...))
	made(val.Choose(many(100000, never())...))
	made(val.Choose(never(), number(1)))
	made(val.Choose(channel(0), never()))
	for _, f := range []int64{-1, 64, math.MinInt64, math.MaxInt64} {
		made(val.Wrap(f, never()))
		made(val.Guard(f))
		made(val.Nack(f))
	}
	for _, n := range []int{api.MaxArgs + 1, 300, 100000} {
		made(val.Wrap(0, never(), many(n, unit())...))
		made(val.Guard(0, many(n, unit())...))
		made(val.Nack(0, many(n, unit())...))
	}
	for _, x := range []api.Val{unit(), number(1), channel(1), pair(never(), never())} {
		made(val.Wrap(0, x))
		made(val.Wrap(0, x, never()))
	}
}

// P4.3: a value of invalid values is invalid.
func TestMadeOfInvalid(t *testing.T) {
	for name, x := range invalid() {
		for what, build := range map[string]func() (api.Val, api.Errno){
			"Pair first":    func() (api.Val, api.Errno) { return val.Pair(x, unit()) },
			"Pair second":   func() (api.Val, api.Errno) { return val.Pair(unit(), x) },
			"Send over":     func() (api.Val, api.Errno) { return val.Send(x, unit()) },
			"Send of":       func() (api.Val, api.Errno) { return val.Send(channel(0), x) },
			"Recv":          func() (api.Val, api.Errno) { return val.Recv(x) },
			"Always":        func() (api.Val, api.Errno) { return val.Always(x) },
			"Choose":        func() (api.Val, api.Errno) { return val.Choose(never(), x) },
			"Wrap":          func() (api.Val, api.Errno) { return val.Wrap(1, x) },
			"Wrap argument": func() (api.Val, api.Errno) { return val.Wrap(1, never(), unit(), x) },
			"Guard":         func() (api.Val, api.Errno) { return val.Guard(1, x) },
			"Nack":          func() (api.Val, api.Errno) { return val.Nack(1, unit(), x) },
		} {
			v, e := build()
			wantNone(t, what+" of "+name, v, e, api.ErrVal)
		}
	}
}

// P4.3 and P4.5: a made value has one part more than its values, and at most MaxVal.
func TestMadeSize(t *testing.T) {
	a, b := wide(127), of(api.ValAlways, 0, wide(127))
	v, e := val.Pair(a, b)
	wantVal(t, "255 parts and one", v, e, pair(a, b))
	if val.Size(v) != api.MaxVal {
		t.Error(val.Size(v))
	}
	v, e = val.Pair(b, b)
	wantNone(t, "256 parts and one", v, e, api.ErrVal)
	v, e = val.Always(deep(255))
	wantVal(t, "255 parts and one", v, e, deep(256))
	v, e = val.Always(deep(256))
	wantNone(t, "256 parts and one", v, e, api.ErrVal)
}

// P4.3: a made value shares no memory with its values, and they are not changed, nor is what lies behind them.
func TestMadeShares(t *testing.T) {
	room := []api.Val{never(), of(api.ValAlways, 0, number(1)), number(50), number(51)}
	was := []api.Val{never(), of(api.ValAlways, 0, number(1)), number(50), number(51)}
	l := room[:2]
	ok := must(t)
	for what, build := range map[string]func() api.Val{
		"Make":          func() api.Val { return ok(val.Make(api.ValChoose, 0, l...)) },
		"Choose":        func() api.Val { return ok(val.Choose(l...)) },
		"Guard":         func() api.Val { return ok(val.Guard(2, l...)) },
		"Nack":          func() api.Val { return ok(val.Nack(2, l...)) },
		"Wrap":          func() api.Val { return ok(val.Wrap(2, room[1])) },
		"Wrap argument": func() api.Val { return ok(val.Wrap(2, room[0], l...)) },
		"Pair":          func() api.Val { return ok(val.Pair(room[1], room[1])) },
		"Send":          func() api.Val { return ok(val.Send(channel(0), room[1])) },
		"Always":        func() api.Val { return ok(val.Always(room[1])) },
	} {
		first, second := build(), build()
		spoil(first)
		if !slices.EqualFunc(room, was, alike) {
			t.Fatalf("%s shares its values' memory: %v", what, room)
		}
		if !alike(second, build()) {
			t.Errorf("%s: results share memory", what)
		}
	}
	p := ok(val.Pair(room[1], room[1]))
	spoil(p.L[0])
	if !alike(p.L[1], was[1]) {
		t.Error("the values of a pair share memory")
	}
	p = ok(val.Pair(room[1], unit()))
	room[1].L[0] = number(9)
	if !alike(p.L[0], was[1]) {
		t.Error("a pair follows its values")
	}
}
