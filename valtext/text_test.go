package valtext_test

import (
	"slices"
	"strings"
	"testing"

	"betrothal/api"
	"betrothal/valtext"
)

// P5.1: Text of valid values of every Kind.
func TestText(t *testing.T) {
	for _, c := range spellings() {
		if s, e := valtext.Text(c.v); s != c.s || e != api.OK {
			t.Errorf("%s, error %d, not %s", s, e, c.s)
		}
	}
	empty := api.Val{Kind: api.ValChoose, L: []api.Val{}}
	if s, e := valtext.Text(empty); s != "choose()" || e != api.OK {
		t.Error(s, e)
	}
	if s, e := valtext.Text(of(api.ValAlways, 0, api.Val{Kind: api.ValUnit, L: []api.Val{}})); s != "always(unit)" || e != api.OK {
		t.Error(s, e)
	}
}

// P5.1: an invalid value has no text.
func TestTextInvalid(t *testing.T) {
	for name, v := range invalid() {
		if s, e := valtext.Text(v); s != "" || e != api.ErrVal {
			t.Errorf("%s: %s, error %d", name, s, e)
		}
	}
}

// P5.1: Lines.
func TestLines(t *testing.T) {
	for _, c := range []struct {
		l []api.Val
		s string
	}{
		{nil, ""},
		{[]api.Val{}, ""},
		{[]api.Val{unit()}, "unit\n"},
		{[]api.Val{number(1), number(1), pair(unit(), number(-2))}, "1\n1\npair(unit,-2)\n"},
		{many(1000, of(api.ValChoose, 0)), strings.Repeat("choose()\n", 1000)},
	} {
		if s, e := valtext.Lines(c.l...); s != c.s || e != api.OK {
			t.Errorf("%q, error %d, not %q", s, e, c.s)
		}
	}
	var l []api.Val
	var want strings.Builder
	for _, c := range spellings() {
		l = append(l, c.v)
		want.WriteString(c.s + "\n")
	}
	if s, e := valtext.Lines(l...); s != want.String() || e != api.OK {
		t.Errorf("%q, error %d", s, e)
	}
}

// P5.1: ErrVal if one of the values is not valid, whichever it is.
func TestLinesInvalid(t *testing.T) {
	for name, v := range invalid() {
		for at := range 3 {
			l := []api.Val{number(1), number(2), number(3)}
			l[at] = v
			if s, e := valtext.Lines(l...); s != "" || e != api.ErrVal {
				t.Errorf("%s at %d: %q, error %d", name, at, s, e)
			}
		}
		if s, e := valtext.Lines(v); s != "" || e != api.ErrVal {
			t.Errorf("%s: %q, error %d", name, s, e)
		}
	}
}

// What is passed is not changed, nor what lies behind it.
func TestArguments(t *testing.T) {
	fresh := func() []api.Val {
		return []api.Val{pair(number(1), unit()), of(api.ValGuard, 2, unit()), number(3), number(4)}
	}
	room := fresh()
	valtext.Lines(room[:2]...)
	valtext.Text(of(api.ValGuard, 0, room[:2]...))
	if !slices.EqualFunc(room, fresh(), alike) {
		t.Error(room)
	}
}

// P5.4: different values have different texts.
func TestDifferent(t *testing.T) {
	r := numbers(5)
	known := map[string]api.Val{}
	for _, c := range spellings() {
		known[c.s] = c.v
	}
	for range 20000 {
		v := r.value(r.below(4))
		s, e := valtext.Text(v)
		if e != api.OK || s != spell(v) {
			t.Fatalf("%v: %s, error %d", v, s, e)
		}
		if w, is := known[s]; is && !alike(v, w) {
			t.Fatalf("%s is the text of %v and of %v", s, v, w)
		}
		known[s] = v
	}
	if len(known) < 1000 {
		t.Error(len(known))
	}
}
