package valtext_test

import (
	"math"
	"slices"
	"strconv"
	"strings"
	"testing"

	"betrothal/api"
	"betrothal/val"
	"betrothal/valtext"
)

// symbol is what may stand in a text: a byte, a value (of any Kind, an event, or a channel), a rest of a list, or the rest of a number.
type symbol struct {
	what string
	left int
	most int64
	read string
}

// state is a way to go on with a text: the symbols that must follow, the last one first, and how many parts have begun.
type state struct {
	symbols []symbol
	parts   int
}

// literally returns the symbols of bytes.
func literally(s string) []symbol {
	var l []symbol
	for i := range len(s) {
		l = append(l, symbol{what: "byte", read: s[i : i+1]})
	}
	return l
}

func listed(word string, l ...symbol) []symbol {
	return slices.Concat(literally(word+"("), l, literally(")"))
}

func separate(l ...symbol) []symbol {
	var m []symbol
	for i, one := range l {
		if i > 0 {
			m = append(m, literally(",")...)
		}
		m = append(m, one)
	}
	return m
}

// rules returns what a symbol may stand for.
func rules(s symbol) [][]symbol {
	value, event, channel := symbol{what: "value"}, symbol{what: "event"}, symbol{what: "channel"}
	whole, fun := symbol{what: "natural", most: math.MaxInt64}, symbol{what: "natural", most: 63}
	channels := [][]symbol{listed("chan", whole)}
	events := [][]symbol{
		listed("send", separate(channel, value)...), listed("recv", channel), listed("always", value), literally("never"),
		literally("choose()"), listed("choose", event, symbol{what: "events", left: 15}),
		listed("wrap", append(separate(fun, event), symbol{what: "values", left: 8})...),
		listed("guard", fun, symbol{what: "values", left: 8}), listed("nack", fun, symbol{what: "values", left: 8}), listed("cond", whole),
	}
	switch s.what {
	case "channel":
		return channels
	case "event":
		return events
	case "value":
		return slices.Concat(channels, events, [][]symbol{{{what: "integer"}}, literally("unit"), listed("pair", separate(value, value)...)})
	}
	more := [][]symbol{nil}
	if s.left > 0 {
		one := strings.TrimSuffix(s.what, "s")
		more = append(more, append(literally(","), symbol{what: one}, symbol{what: s.what, left: s.left - 1}))
	}
	return more
}

// begins reports whether a number of a symbol begins with a string.
func (s symbol) begins(digits string) bool {
	if digits == "-" {
		return s.what == "integer"
	}
	n, e := strconv.ParseInt(digits, 10, 64)
	return e == nil && strconv.FormatInt(n, 10) == digits && (s.what == "integer" || n >= 0 && n <= s.most)
}

// ends reports whether a number of a symbol has been read.
func (s symbol) ends() bool { return s.read != "-" && s.begins(s.read) }

// after returns the ways to go on after a byte.
func (w state) after(b string) []state {
	if len(w.symbols) == 0 {
		return nil
	}
	last := len(w.symbols) - 1
	s, rest := w.symbols[last], w.symbols[:last:last]
	switch s.what {
	case "byte":
		if s.read == b {
			return []state{{rest, w.parts}}
		}
		return nil
	case "integer", "natural":
		var l []state
		if s.begins(s.read + b) {
			longer := s
			longer.read += b
			l = append(l, state{append(rest, longer), w.parts})
		}
		if s.ends() {
			l = append(l, state{rest, w.parts}.after(b)...)
		}
		return l
	case "value", "event", "channel":
		if w.parts == 256 {
			return nil
		}
		w.parts++
	}
	var l []state
	for _, rule := range rules(s) {
		longer := slices.Clone(rest)
		for _, one := range slices.Backward(rule) {
			longer = append(longer, one)
		}
		l = append(l, state{longer, w.parts}.after(b)...)
	}
	return l
}

// over reports whether a text may end.
func (w state) over() bool {
	return len(w.symbols) == 0 || len(w.symbols) == 1 && w.symbols[0].ends()
}

// ways are all ways to go on with a text.
type ways []state

func start() ways { return ways{{symbols: []symbol{{what: "value"}}}} }

// after returns the ways to go on after a byte.
func (l ways) after(b string) ways {
	var next ways
	for _, w := range l {
		next = append(next, w.after(b)...)
	}
	return next
}

// over reports whether a text may end.
func (l ways) over() bool { return slices.ContainsFunc(l, state.over) }

// verdict is where a string is wrong, or that it is a text.
type verdict struct {
	at int
	is bool
}

// end returns the verdict on a string of which no byte is wrong.
func (l ways) end(length int) verdict {
	if l.over() {
		return verdict{0, true}
	}
	return verdict{length, false}
}

// judge returns the verdict by the definition.
func judge(s string) verdict {
	l := start()
	for i := range len(s) {
		if l = l.after(s[i : i+1]); len(l) == 0 {
			return verdict{i, false}
		}
	}
	return l.end(len(s))
}

// compare compares what Parse says of a string with a verdict.
func compare(t *testing.T, s string, want verdict) {
	t.Helper()
	v, at, e := valtext.Parse(s)
	if want.is {
		if e != api.OK || at != 0 || spell(v) != s || val.Check(v) != api.OK {
			t.Fatalf("%q: %v at %d, error %d", s, v, at, e)
		}
	} else if e != api.ErrText || at != want.at || v.Kind != 0 || v.N != 0 || v.L != nil {
		t.Fatalf("%q: %v at %d, error %d, not wrong at %d", s, v, at, e, want.at)
	}
}

// compareBytes compares each beginning of a string, from some length on, and each of some bytes after it.
func compareBytes(t *testing.T, s string, from int, bytes string) {
	t.Helper()
	l := start()
	for end := 0; len(l) > 0; end++ {
		if end >= from {
			compare(t, s[:end], l.end(end))
			for i := range len(bytes) {
				b := bytes[i : i+1]
				want := verdict{end, false}
				if next := l.after(b); len(next) > 0 {
					want = next.end(end + 1)
				}
				compare(t, s[:end]+b, want)
			}
		}
		if end == len(s) {
			return
		}
		l = l.after(s[end : end+1])
	}
}

// P5.2: each byte after each beginning of the texts.
func TestModelBytes(t *testing.T) {
	var all []byte
	for b := range 256 {
		all = append(all, byte(b))
	}
	for _, c := range spellings() {
		if len(c.s) <= 200 {
			compareBytes(t, c.s, 0, string(all))
		}
	}
}

// P5.2: texts with more parts than a value has.
func TestModelParts(t *testing.T) {
	some := "choose(" + strings.Repeat("never,", 15) + "never),"
	long := "choose(" + strings.Repeat(some, 15)
	flat := strings.Repeat("pair(unit,", 130)
	for _, s := range []string{long, flat, deepText(258)} {
		compareBytes(t, s, len(s)/2, "1u),n")
	}
}

// changed returns a string with a change at some place.
func (n *numbers) changed(s string) string {
	pieces := []string{"0", "1", "9", "-", ",", "(", ")", " ", "n", "c", "unit", "never", "chan(3)", "64", "choose()", "\xff", ",unit", ",never", "pair("}
	at := n.below(len(s) + 1)
	to := min(len(s), at+n.below(3))
	switch n.below(4) {
	case 0:
		return s[:at]
	case 1:
		return s[:at] + s[to:]
	}
	return s[:at] + pieces[n.below(len(pieces))] + s[to:]
}

// P5.2 and P5.4: many strings, each compared with the definition.
func TestModel(t *testing.T) {
	r := numbers(11)
	texts, others := 0, 0
	for range 20000 {
		s := spell(r.value(r.below(4)))
		for range r.below(3) {
			s = r.changed(s)
		}
		want := judge(s)
		compare(t, s, want)
		if want.is {
			texts++
		} else {
			others++
			consequences(t, &r, s)
		}
	}
	if texts < 3000 || others < 3000 {
		t.Errorf("%d texts and %d others", texts, others)
	}
}

// consequences checks P5.4 of a string that is wrong.
func consequences(t *testing.T, r *numbers, s string) {
	t.Helper()
	_, at, _ := valtext.Parse(s)
	if at < 0 || at > len(s) {
		t.Fatalf("%q: %d", s, at)
	}
	if _, end, e := valtext.Parse(s[:at]); e != api.OK && end != at {
		t.Fatalf("%q: wrong at %d, and the part before it at %d", s, at, end)
	}
	other := s[:at] + r.changed(s[at:])
	if _, later, e := valtext.Parse(other); e != api.OK && later < at {
		t.Fatalf("%q: wrong at %d, but %q at %d", s, at, other, later)
	}
}
