package valtext

import (
	"math"

	"betrothal/api"
)

// text is a string that is looked at from an index on.
type text string

// holds reports whether a byte stands at an index.
func (t text) holds(at int, b byte) bool { return at < len(t) && t[at] == b }

// from returns the rest from an index on.
func (t text) from(at int) text { return t[at:] }

// agrees returns how many bytes of a word stand at an index.
func (t text) agrees(at int, word string) int {
	n := 0
	for n < len(word) && t.holds(at+n, word[n]) {
		n++
	}
	return n
}

// wrong is what is raised for a wrong byte, or for an end that comes too early: its index.
type wrong int

// raised returns the index and the error of what was raised, or OK; what is not a wrong byte is raised again, because no string is at fault.
func raised(what any) (int, api.Errno) {
	if what == nil {
		return 0, api.OK
	}
	at, is := what.(wrong)
	if !is {
		panic(what)
	}
	return int(at), api.ErrText
}

// reader reads a value from a string, and never goes past a byte that could be wrong.
type reader struct {
	text
	at     int
	parts  int
	follow [kinds]follower
}

// whole reads a value that takes up the string.
func (r *reader) whole() api.Val {
	v := r.value(anything)
	if r.at < len(r.text) {
		panic(wrong(r.at))
	}
	return v
}

// value reads a value of one of some Kinds.
func (r *reader) value(may set) api.Val {
	if r.parts == api.MaxVal {
		panic(wrong(r.at))
	}
	r.parts++
	k := r.kind(may)
	switch {
	case k == api.ValInt:
		return api.Val{Kind: k, N: r.number()}
	case bare(k):
		return api.Val{Kind: k}
	}
	return r.list(k)
}

// kind reads the word of one of some Kinds; a number has none, and its first byte is left to be read.
func (r *reader) kind(may set) api.ValKind {
	if may.has(api.ValInt) && r.numeric() {
		return api.ValInt
	}
	furthest := 0
	for i, word := range words {
		k := api.ValKind(i)
		if word == "" || !may.has(k) {
			continue
		}
		n := r.agrees(r.at, word)
		if n == len(word) {
			r.at += n
			return k
		}
		furthest = max(furthest, n)
	}
	panic(wrong(r.at + furthest))
}

// numeric reports whether a number begins here.
func (r *reader) numeric() bool {
	return r.holds(r.at, '-') || r.at < len(r.text) && digit(rune(r.text[r.at]))
}

func digit(c rune) bool { return c >= '0' && c <= '9' }

// number reads the number that is a value.
func (r *reader) number() int64 {
	if !r.holds(r.at, '-') {
		return int64(r.digits(math.MaxInt64))
	}
	r.at++
	if r.holds(r.at, '0') {
		panic(wrong(r.at))
	}
	return int64(-r.digits(-math.MinInt64))
}

// digits reads the longest number that is at most a given one. A digit that is left over is found to be wrong by what is read next, because no digit may stand there.
func (r *reader) digits(most uint64) uint64 {
	n, read := uint64(0), 0
reading:
	for i, c := range r.from(r.at) {
		if !digit(c) || i > 0 && n == 0 {
			break reading
		}
		d := uint64(c - '0')
		if n > (most-d)/10 {
			break reading
		}
		n, read = n*10+d, i+1
	}
	if read == 0 {
		panic(wrong(r.at))
	}
	r.at += read
	return n
}

// list reads the list of a value, after its word.
func (r *reader) list(k api.ValKind) api.Val {
	r.pass('(')
	v := api.Val{Kind: k}
	most, numbered := greatest(k)
	if numbered {
		v.N = int64(r.digits(most))
	}
	for {
		next, ends := r.follow[k](len(v.L))
		if ends && (next == 0 || r.holds(r.at, ')')) {
			r.pass(')')
			return v
		}
		if numbered || len(v.L) > 0 {
			r.pass(',')
		}
		v.L = append(v.L, r.value(next))
	}
}

// pass reads a byte that must stand here.
func (r *reader) pass(b byte) {
	if !r.holds(r.at, b) {
		panic(wrong(r.at))
	}
	r.at++
}
