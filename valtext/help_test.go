package valtext_test

import (
	"iter"
	"math"
	"slices"
	"strconv"
	"strings"
	"testing"

	"betrothal/api"
)

// of writes a value down.
func of(k api.ValKind, n int64, l ...api.Val) api.Val {
	return api.Val{Kind: k, N: n, L: l}
}

func number(n int64) api.Val { return of(api.ValInt, n) }

func channel(n int64) api.Val { return of(api.ValChan, n) }

func unit() api.Val { return of(api.ValUnit, 0) }

func never() api.Val { return of(api.ValNever, 0) }

func pair(a, b api.Val) api.Val { return of(api.ValPair, 0, a, b) }

// alike compares values in full.
func alike(a, b api.Val) bool {
	return a.Kind == b.Kind && a.N == b.N && slices.EqualFunc(a.L, b.L, alike)
}

// many returns so many values.
func many(n int, v api.Val) []api.Val {
	return slices.Repeat([]api.Val{v}, n)
}

// deep returns a value of so many parts, each within the one before.
func deep(parts int) api.Val {
	v := unit()
	for range parts - 1 {
		v = of(api.ValAlways, 0, v)
	}
	return v
}

// deepText returns the text of a deep value.
func deepText(parts int) string {
	return strings.Repeat("always(", parts-1) + "unit" + strings.Repeat(")", parts-1)
}

// endless returns a value that contains itself.
func endless() api.Val {
	l := make([]api.Val, 1)
	l[0] = of(api.ValAlways, 0, l...)
	return l[0]
}

// spelt is a value with its text.
type spelt struct {
	v api.Val
	s string
}

// spellings are valid values of every Kind, at the edges of their shapes.
func spellings() []spelt {
	c := channel(3)
	return []spelt{
		{unit(), "unit"},
		{number(0), "0"},
		{number(5), "5"},
		{number(-5), "-5"},
		{number(10), "10"},
		{number(-100), "-100"},
		{number(math.MaxInt64), "9223372036854775807"},
		{number(math.MinInt64), "-9223372036854775808"},
		{pair(number(-5), unit()), "pair(-5,unit)"},
		{pair(pair(number(1), number(2)), pair(never(), c)), "pair(pair(1,2),pair(never,chan(3)))"},
		{channel(0), "chan(0)"},
		{channel(math.MaxInt64), "chan(9223372036854775807)"},
		{of(api.ValSend, 0, c, number(5)), "send(chan(3),5)"},
		{of(api.ValSend, 0, c, of(api.ValSend, 0, c, c)), "send(chan(3),send(chan(3),chan(3)))"},
		{of(api.ValRecv, 0, c), "recv(chan(3))"},
		{of(api.ValAlways, 0, pair(c, unit())), "always(pair(chan(3),unit))"},
		{never(), "never"},
		{of(api.ValChoose, 0), "choose()"},
		{of(api.ValChoose, 0, never()), "choose(never)"},
		{of(api.ValChoose, 0, of(api.ValRecv, 0, c), of(api.ValCond, 4), of(api.ValChoose, 0)), "choose(recv(chan(3)),cond(4),choose())"},
		{of(api.ValChoose, 0, many(16, never())...), "choose(" + strings.Repeat("never,", 15) + "never)"},
		{of(api.ValWrap, 0, never()), "wrap(0,never)"},
		{of(api.ValWrap, 7, of(api.ValRecv, 0, c), number(1)), "wrap(7,recv(chan(3)),1)"},
		{of(api.ValWrap, 63, slices.Concat(many(1, never()), many(8, unit()))...), "wrap(63,never" + strings.Repeat(",unit", 8) + ")"},
		{of(api.ValGuard, 0), "guard(0)"},
		{of(api.ValGuard, 63, many(8, c)...), "guard(63" + strings.Repeat(",chan(3)", 8) + ")"},
		{of(api.ValNack, 1), "nack(1)"},
		{of(api.ValNack, 63, number(-1), unit()), "nack(63,-1,unit)"},
		{of(api.ValNack, 10, many(8, number(0))...), "nack(10" + strings.Repeat(",0", 8) + ")"},
		{of(api.ValCond, 0), "cond(0)"},
		{of(api.ValCond, math.MaxInt64), "cond(9223372036854775807)"},
		{deep(256), deepText(256)},
	}
}

// invalid are values that are not valid, by name.
func invalid() map[string]api.Val {
	return map[string]api.Val{
		"none":                 {},
		"Kind 14":              of(14, 0),
		"negative Kind":        of(-1, 0),
		"least Kind":           of(math.MinInt, 0),
		"greatest Kind":        of(math.MaxInt, 0),
		"unit 1":               of(api.ValUnit, 1),
		"number with a part":   of(api.ValInt, 5, unit()),
		"pair of one":          of(api.ValPair, 0, unit()),
		"channel -1":           channel(-1),
		"send over a number":   of(api.ValSend, 0, number(3), unit()),
		"choose of a unit":     of(api.ValChoose, 0, unit()),
		"choose of 17":         of(api.ValChoose, 0, many(17, never())...),
		"wrap 64":              of(api.ValWrap, 64, never()),
		"guard of 9 arguments": of(api.ValGuard, 0, many(9, unit())...),
		"condition -1":         of(api.ValCond, -1),
		"invalid in the depth": pair(unit(), of(api.ValAlways, 0, api.Val{})),
		"one part too many":    deep(257),
		"endless":              endless(),
	}
}

// spell writes the text of a valid value, as the definition says it.
func spell(v api.Val) string {
	digits := strconv.FormatInt(v.N, 10)
	var l []string
	for _, one := range v.L {
		l = append(l, spell(one))
	}
	switch v.Kind {
	case api.ValInt:
		return digits
	case api.ValUnit:
		return "unit"
	case api.ValNever:
		return "never"
	case api.ValChan, api.ValWrap, api.ValGuard, api.ValNack, api.ValCond:
		l = append([]string{digits}, l...)
	}
	word := map[api.ValKind]string{
		api.ValPair: "pair", api.ValChan: "chan", api.ValSend: "send", api.ValRecv: "recv", api.ValAlways: "always", api.ValChoose: "choose",
		api.ValWrap: "wrap", api.ValGuard: "guard", api.ValNack: "nack", api.ValCond: "cond",
	}[v.Kind]
	return word + "(" + strings.Join(l, ",") + ")"
}

// told is what an iterator tells of one line.
type told struct {
	line int
	v    api.Val
}

func collect(s iter.Seq2[int, api.Val]) []told {
	var l []told
	for line, v := range s {
		l = append(l, told{line, v})
	}
	return l
}

func sameTold(a, b []told) bool {
	return slices.EqualFunc(a, b, func(x, y told) bool {
		return x.line == y.line && alike(x.v, y.v)
	})
}

// spoil overwrites the memory of a value, also behind its lists.
func spoil(v api.Val) {
	l := v.L[:cap(v.L)]
	for i := range l {
		spoil(l[i])
		l[i] = of(api.ValNack, -7)
	}
}

// numbers yields a fixed sequence of numbers.
type numbers uint64

func (n *numbers) below(most int) int {
	*n = *n*6364136223846793005 + 1442695040888963407
	return int(uint64(*n>>33) % uint64(most))
}

// digits makes a number, often one at an edge.
func (n *numbers) digits() int64 {
	edges := []int64{0, 1, -1, 9, 10, -10, 63, 64, math.MaxInt64, math.MinInt64, math.MaxInt64 / 10, math.MinInt64 / 10}
	if n.below(2) == 0 {
		return edges[n.below(len(edges))]
	}
	return int64(n.below(1<<31)) << n.below(32) * int64(1-2*n.below(2))
}

// natural makes a number from 0 on.
func (n *numbers) natural() int64 {
	return n.digits() & math.MaxInt64
}

// value makes a valid value of few parts.
func (n *numbers) value(depth int) api.Val {
	if depth == 0 {
		return []api.Val{unit(), number(n.digits()), channel(n.natural()), never()}[n.below(4)]
	}
	if n.below(3) == 0 {
		return n.event(depth)
	}
	switch n.below(4) {
	case 0:
		return number(n.digits())
	case 1:
		return channel(n.natural())
	}
	return pair(n.value(depth-1), n.value(depth-1))
}

// event makes an event of few parts.
func (n *numbers) event(depth int) api.Val {
	if depth == 0 {
		return []api.Val{never(), of(api.ValCond, n.natural()), of(api.ValChoose, 0), of(api.ValGuard, int64(n.below(64)))}[n.below(4)]
	}
	k := api.ValSend + api.ValKind(n.below(9))
	v := of(k, 0)
	switch k {
	case api.ValSend:
		v.L = []api.Val{channel(n.natural()), n.value(depth - 1)}
	case api.ValRecv:
		v.L = []api.Val{channel(n.natural())}
	case api.ValAlways:
		v.L = []api.Val{n.value(depth - 1)}
	case api.ValChoose:
		for range n.below(4) {
			v.L = append(v.L, n.event(depth-1))
		}
	case api.ValWrap, api.ValGuard, api.ValNack:
		v.N = int64(n.below(64))
		if k == api.ValWrap {
			v.L = append(v.L, n.event(depth-1))
		}
		for range n.below(3) {
			v.L = append(v.L, n.value(depth-1))
		}
	case api.ValCond:
		v.N = n.natural()
	}
	return v
}

// wantWrong checks that a string is not the text of a value.
func wantWrong(t *testing.T, what string, v api.Val, at int, e api.Errno, want int) {
	t.Helper()
	if e != api.ErrText || at != want || v.Kind != 0 || v.N != 0 || v.L != nil {
		t.Errorf("%s: %v at %d, error %d, not wrong at %d", what, v, at, e, want)
	}
}

func wantVal(t *testing.T, what string, v api.Val, at int, e api.Errno, want api.Val) {
	t.Helper()
	if e != api.OK || at != 0 || !alike(v, want) {
		t.Errorf("%s: %v at %d, error %d, not %v", what, v, at, e, want)
	}
}
