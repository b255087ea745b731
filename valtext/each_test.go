package valtext_test

import (
	"strings"
	"testing"

	"betrothal/api"
	"betrothal/valtext"
)

// P5.2: the values of lines, up to the first one that is not a text.
func TestEach(t *testing.T) {
	for _, c := range []struct {
		s string
		l []told
	}{
		{"", nil},
		{"\n", nil},
		{"\n1\n", nil},
		{"x", nil},
		{"1", []told{{0, number(1)}}},
		{"1\n", []told{{0, number(1)}}},
		{"1\n\n", []told{{0, number(1)}}},
		{"1\n\n2\n", []told{{0, number(1)}}},
		{"1\nunit", []told{{0, number(1)}, {1, unit()}}},
		{"1\nunit\nx\n2", []told{{0, number(1)}, {1, unit()}}},
		{"1\nunit\n2\n", []told{{0, number(1)}, {1, unit()}, {2, number(2)}}},
		{"1\n1\n1", []told{{0, number(1)}, {1, number(1)}, {2, number(1)}}},
		{"1\r\n2\n", nil},
		{"1\n2\r", []told{{0, number(1)}}},
		{"1 \n2\n", nil},
		{"1\n 2\n", []told{{0, number(1)}}},
		{"pair(1,\n2)", nil},
		{"1\n\xff\n2", []told{{0, number(1)}}},
		{"pair(1,2)\nguard(64)", []told{{0, pair(number(1), number(2))}}},
		{deepText(256) + "\n" + deepText(256) + "\n" + deepText(257) + "\n1", []told{{0, deep(256)}, {1, deep(256)}}},
	} {
		if l := collect(valtext.Each(c.s)); !sameTold(l, c.l) {
			t.Errorf("%q: %v", c.s, l)
		}
	}
}

// P5.1 and P5.2: Each of Lines returns the values.
func TestEachOfLines(t *testing.T) {
	var l []api.Val
	var want []told
	for i, c := range spellings() {
		l = append(l, c.v)
		want = append(want, told{i, c.v})
	}
	s, _ := valtext.Lines(l...)
	if got := collect(valtext.Each(s)); !sameTold(got, want) {
		t.Errorf("%v", got)
	}
	if got := collect(valtext.Each(s[:len(s)-1])); !sameTold(got, want) {
		t.Errorf("%v", got)
	}
	if got := collect(valtext.Each(strings.Repeat("unit\n", 100000))); len(got) != 100000 || got[99999].line != 99999 {
		t.Error(len(got))
	}
}

// P5.2: the loop may stop early, and the iterator may be used again, also within itself.
func TestEachAgain(t *testing.T) {
	s := valtext.Each("1\nunit\npair(2,3)\nx\n4")
	want := []told{{0, number(1)}, {1, unit()}, {2, pair(number(2), number(3))}}
	for stop := range want {
		var got []told
		for line, v := range s {
			got = append(got, told{line, v})
			if len(got) == stop+1 {
				break
			}
		}
		if !sameTold(got, want[:stop+1]) {
			t.Errorf("stopped after %d: %v", stop+1, got)
		}
	}
	runs := 0
	for range s {
		if got := collect(s); !sameTold(got, want) {
			t.Errorf("within itself: %v", got)
		}
		runs++
	}
	if runs != len(want) {
		t.Error(runs)
	}
}

// P5.2: what is told is new memory each time.
func TestEachShares(t *testing.T) {
	s := valtext.Each("pair(1,2)\npair(1,2)")
	want := pair(number(1), number(2))
	for range 2 {
		for line, v := range s {
			wantVal(t, "line", v, 0, api.OK, want)
			spoil(v)
			if line > 1 {
				t.Error(line)
			}
		}
	}
}
