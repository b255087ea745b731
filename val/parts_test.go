package val_test

import (
	"testing"

	"betrothal/api"
	"betrothal/val"
)

// partsOf writes the parts of a value down, each before its own parts.
func partsOf(v api.Val, depth int) []told {
	l := []told{{depth, v}}
	for _, one := range v.L {
		l = append(l, partsOf(one, depth+1)...)
	}
	return l
}

// P4.2: the parts in their order, with their depths.
func TestParts(t *testing.T) {
	c := channel(3)
	send := of(api.ValSend, 0, c, number(5))
	wrap := of(api.ValWrap, 7, send, unit(), number(2))
	v := of(api.ValChoose, 0, wrap, never())
	want := []told{{0, v}, {1, wrap}, {2, send}, {3, c}, {3, number(5)}, {2, unit()}, {2, number(2)}, {1, never()}}
	if got := collect(val.Parts(v)); !sameTold(got, want) {
		t.Errorf("%v", got)
	}
	for name, v := range valid() {
		if got := collect(val.Parts(v)); !sameTold(got, partsOf(v, 0)) || len(got) != val.Size(v) {
			t.Errorf("%s: %v", name, got)
		}
	}
}

// P4.2: an invalid value has no parts to be told.
func TestPartsInvalid(t *testing.T) {
	for name, v := range invalid() {
		s := val.Parts(v)
		if s == nil {
			t.Fatalf("%s: no iterator", name)
		}
		if got := collect(s); got != nil {
			t.Errorf("%s: %v", name, got)
		}
	}
}

// P4.2: the loop may stop early, and the iterator may be used again, also within itself.
func TestPartsAgain(t *testing.T) {
	v := pair(pair(number(1), number(2)), number(3))
	s := val.Parts(v)
	want := partsOf(v, 0)
	for stop := range want {
		var got []told
		for depth, part := range s {
			got = append(got, told{depth, part})
			if len(got) == stop+1 {
				break
			}
		}
		if !sameTold(got, want[:stop+1]) {
			t.Errorf("stopped after %d: %v", stop+1, got)
		}
	}
	runs := 0
	for range s {
		if got := collect(s); !sameTold(got, want) {
			t.Errorf("within itself: %v", got)
		}
		runs++
	}
	if runs != len(want) {
		t.Error(runs)
	}
}

// P4.2: Parts uses the value as it is when it is called.
func TestPartsKept(t *testing.T) {
	v := pair(pair(number(1), number(2)), number(3))
	want := partsOf(pair(pair(number(1), number(2)), number(3)), 0)
	s := val.Parts(v)
	spoil(v)
	if got := collect(s); !sameTold(got, want) {
		t.Errorf("%v", got)
	}
	bad := pair(channel(-1), unit())
	s = val.Parts(bad)
	bad.L[0] = unit()
	if got := collect(s); got != nil {
		t.Errorf("%v", got)
	}
}

// What is told is new memory, each part by itself.
func TestPartsShare(t *testing.T) {
	v := pair(pair(number(1), number(2)), pair(unit(), unit()))
	want := partsOf(pair(pair(number(1), number(2)), pair(unit(), unit())), 0)
	s := val.Parts(v)
	for range 2 {
		at := 0
		for depth, part := range s {
			if depth != want[at].depth || !alike(part, want[at].part) {
				t.Errorf("part %d: %d %v", at, depth, part)
			}
			spoil(part)
			at++
		}
	}
	if !alike(v, want[0].part) {
		t.Error("the value was changed")
	}
	got := collect(s)
	spoil(got[0].part)
	if !sameTold(got[1:], want[1:]) {
		t.Error("parts share memory")
	}
}
