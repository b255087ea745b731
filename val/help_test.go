package val_test

import (
	"iter"
	"math"
	"slices"
	"testing"

	"betrothal/api"
	"betrothal/val"
)

// of writes a value down.
func of(k api.ValKind, n int64, l ...api.Val) api.Val {
	return api.Val{Kind: k, N: n, L: l}
}

func number(n int64) api.Val { return of(api.ValInt, n) }

func channel(n int64) api.Val { return of(api.ValChan, n) }

func unit() api.Val { return of(api.ValUnit, 0) }

func never() api.Val { return of(api.ValNever, 0) }

func pair(a, b api.Val) api.Val { return of(api.ValPair, 0, a, b) }

// alike compares values in full, without a call of the package.
func alike(a, b api.Val) bool {
	return a.Kind == b.Kind && a.N == b.N && slices.EqualFunc(a.L, b.L, alike)
}

// deep returns a value of so many parts, each within the one before.
func deep(parts int) api.Val {
	v := unit()
	for range parts - 1 {
		v = of(api.ValAlways, 0, v)
	}
	return v
}

// wide returns a value of so many parts, an odd number: pairs of units, of which none is deeper than it must be.
func wide(parts int) api.Val {
	if parts == 1 {
		return unit()
	}
	left := parts / 2
	if left%2 == 0 {
		left--
	}
	return pair(wide(left), wide(parts-1-left))
}

// endless returns a value that contains itself.
func endless() api.Val {
	l := make([]api.Val, 1)
	l[0] = of(api.ValAlways, 0, l...)
	return l[0]
}

// bushy returns a value whose parts double at each depth, though it takes little memory.
func bushy() api.Val {
	v := unit()
	for range 60 {
		v = pair(v, v)
	}
	return v
}

// many returns so many values.
func many(n int, v api.Val) []api.Val {
	return slices.Repeat([]api.Val{v}, n)
}

// valid are valid values by name, of every Kind.
func valid() map[string]api.Val {
	c := channel(3)
	return map[string]api.Val{
		"unit":             unit(),
		"number":           number(5),
		"least number":     number(math.MinInt64),
		"greatest number":  number(math.MaxInt64),
		"pair":             pair(number(1), unit()),
		"pair of an event": pair(never(), c),
		"channel 0":        channel(0),
		"greatest channel": channel(math.MaxInt64),
		"send":             of(api.ValSend, 0, c, number(5)),
		"send of a send":   of(api.ValSend, 0, c, of(api.ValSend, 0, c, c)),
		"recv":             of(api.ValRecv, 0, c),
		"always":           of(api.ValAlways, 0, pair(c, c)),
		"never":            never(),
		"empty choose":     of(api.ValChoose, 0),
		"choose":           of(api.ValChoose, 0, of(api.ValRecv, 0, c), never(), of(api.ValCond, 4), of(api.ValGuard, 1)),
		"greatest choose":  of(api.ValChoose, 0, many(api.MaxChoose, never())...),
		"wrap":             of(api.ValWrap, 0, never()),
		"greatest wrap":    of(api.ValWrap, 63, slices.Concat([]api.Val{never()}, many(api.MaxArgs, number(1)))...),
		"guard":            of(api.ValGuard, 0),
		"greatest guard":   of(api.ValGuard, 63, many(api.MaxArgs, c)...),
		"nack":             of(api.ValNack, 0),
		"greatest nack":    of(api.ValNack, 63, many(api.MaxArgs, unit())...),
		"condition 0":      of(api.ValCond, 0),
		"condition":        of(api.ValCond, math.MaxInt64),
		"greatest depth":   deep(api.MaxVal),
		"greatest width":   of(api.ValAlways, 0, wide(api.MaxVal-1)),
		"empty lists":      of(api.ValAlways, 0, api.Val{Kind: api.ValUnit, L: []api.Val{}}),
	}
}

// invalid are values that are not valid, by name.
func invalid() map[string]api.Val {
	c := channel(3)
	return map[string]api.Val{
		"none":                   {},
		"Kind 14":                of(14, 0),
		"negative Kind":          of(-1, 0),
		"least Kind":             of(math.MinInt, 0),
		"greatest Kind":          of(math.MaxInt, 0),
		"unit 1":                 of(api.ValUnit, 1),
		"unit with a part":       of(api.ValUnit, 0, unit()),
		"number with a part":     of(api.ValInt, 5, unit()),
		"pair 1":                 of(api.ValPair, 1, unit(), unit()),
		"pair of none":           of(api.ValPair, 0),
		"pair of one":            of(api.ValPair, 0, unit()),
		"pair of three":          of(api.ValPair, 0, unit(), unit(), unit()),
		"channel -1":             channel(-1),
		"least channel":          channel(math.MinInt64),
		"channel with a part":    of(api.ValChan, 0, unit()),
		"send 1":                 of(api.ValSend, 1, c, unit()),
		"send over nothing":      of(api.ValSend, 0),
		"send of nothing":        of(api.ValSend, 0, c),
		"send of two":            of(api.ValSend, 0, c, unit(), unit()),
		"send over a number":     of(api.ValSend, 0, number(3), c),
		"recv 1":                 of(api.ValRecv, 1, c),
		"recv from nothing":      of(api.ValRecv, 0),
		"recv from two":          of(api.ValRecv, 0, c, c),
		"recv from a number":     of(api.ValRecv, 0, number(1)),
		"always -1":              of(api.ValAlways, -1, unit()),
		"always of nothing":      of(api.ValAlways, 0),
		"always of two":          of(api.ValAlways, 0, unit(), unit()),
		"never 1":                of(api.ValNever, 1),
		"never with a part":      of(api.ValNever, 0, never()),
		"choose 1":               of(api.ValChoose, 1, never()),
		"choose of a unit":       of(api.ValChoose, 0, unit()),
		"choose of a channel":    of(api.ValChoose, 0, never(), c),
		"choose of 17":           of(api.ValChoose, 0, many(api.MaxChoose+1, never())...),
		"wrap of nothing":        of(api.ValWrap, 0),
		"wrap of a unit":         of(api.ValWrap, 0, unit()),
		"wrap of an event after": of(api.ValWrap, 0, unit(), never()),
		"wrap -1":                of(api.ValWrap, -1, never()),
		"wrap 64":                of(api.ValWrap, 64, never()),
		"wrap of 9 arguments":    of(api.ValWrap, 0, many(api.MaxArgs+2, never())...),
		"guard -1":               of(api.ValGuard, -1),
		"guard 64":               of(api.ValGuard, 64),
		"guard of 9 arguments":   of(api.ValGuard, 0, many(api.MaxArgs+1, unit())...),
		"nack -1":                of(api.ValNack, -1),
		"nack 64":                of(api.ValNack, 64),
		"nack of 9 arguments":    of(api.ValNack, 0, many(api.MaxArgs+1, unit())...),
		"condition -1":           of(api.ValCond, -1),
		"condition with a part":  of(api.ValCond, 0, unit()),
		"invalid first":          pair(channel(-1), unit()),
		"invalid second":         pair(unit(), api.Val{}),
		"invalid argument":       of(api.ValGuard, 0, unit(), of(api.ValUnit, 2)),
		"invalid in the depth":   of(api.ValAlways, 0, pair(unit(), of(api.ValChoose, 0, of(api.ValRecv, 0, channel(-1))))),
		"one part too deep":      deep(api.MaxVal + 1),
		"one part too many":      wide(api.MaxVal + 1),
		"far too many":           bushy(),
		"endless":                endless(),
	}
}

// told is what an iterator tells of one part.
type told struct {
	depth int
	part  api.Val
}

func collect(s iter.Seq2[int, api.Val]) []told {
	var l []told
	for depth, part := range s {
		l = append(l, told{depth, part})
	}
	return l
}

func sameTold(a, b []told) bool {
	return slices.EqualFunc(a, b, func(x, y told) bool {
		return x.depth == y.depth && alike(x.part, y.part)
	})
}

// spoil overwrites the memory of a value, also behind its lists.
func spoil(v api.Val) {
	l := v.L[:cap(v.L)]
	for i := range l {
		spoil(l[i])
		l[i] = of(api.ValNack, -7)
	}
}

// numbers yields a fixed sequence of numbers.
type numbers uint64

func (n *numbers) below(most int) int {
	*n = *n*6364136223846793005 + 1442695040888963407
	return int(uint64(*n>>33) % uint64(most))
}

// any makes some value, often a valid one.
func (n *numbers) any(depth int) api.Val {
	if depth == 0 {
		return []api.Val{unit(), number(2), channel(1), never(), of(api.ValCond, 0)}[n.below(5)]
	}
	k := api.ValKind(1 + n.below(13))
	switch k {
	case api.ValPair:
		return pair(n.any(depth-1), n.any(depth-1))
	case api.ValSend:
		return of(k, 0, channel(int64(n.below(3))), n.any(depth-1))
	case api.ValRecv:
		return of(k, 0, channel(int64(n.below(3))))
	case api.ValAlways:
		return of(k, 0, n.any(depth-1))
	case api.ValChoose, api.ValWrap, api.ValGuard, api.ValNack:
		v := of(k, 0)
		for range n.below(4) {
			v.L = append(v.L, n.any(depth-1))
		}
		return v
	}
	return of(k, 0)
}

// changed returns a value of which one place differs.
func (n *numbers) changed(v api.Val) api.Val {
	w := api.Val{Kind: v.Kind, N: v.N, L: slices.Clone(v.L)}
	at := n.below(3 + len(v.L))
	switch {
	case at == 0:
		w.Kind = api.ValKind(n.below(15))
	case at == 1:
		w.N = int64(n.below(70) - 2)
	case at == 2 && len(w.L) > 0 && n.below(2) == 0:
		w.L = w.L[1:]
	case at == 2:
		w.L = append(w.L, never())
	default:
		w.L[at-3] = n.changed(w.L[at-3])
	}
	return w
}

func wantVal(t *testing.T, what string, got api.Val, e api.Errno, want api.Val) {
	t.Helper()
	if e != api.OK || !alike(got, want) {
		t.Errorf("%s: %v, error %d, not %v", what, got, e, want)
	}
}

func wantNone(t *testing.T, what string, got api.Val, e, want api.Errno) {
	t.Helper()
	if e != want || got.Kind != 0 || got.N != 0 || got.L != nil {
		t.Errorf("%s: %v, error %d, not error %d", what, got, e, want)
	}
}

// must returns a made value.
func must(t *testing.T) func(v api.Val, e api.Errno) api.Val {
	return func(v api.Val, e api.Errno) api.Val {
		t.Helper()
		if e != api.OK || val.Check(v) != api.OK {
			t.Fatalf("%v, error %d", v, e)
		}
		return v
	}
}
