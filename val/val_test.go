package val_test

import (
	"math"
	"testing"

	"betrothal/api"
	"betrothal/val"
)

// The examples of the chapter.
func TestExamples(t *testing.T) {
	for _, c := range []struct {
		v api.Val
		e api.Errno
	}{
		{number(5), api.OK},
		{of(api.ValInt, 5, unit()), api.ErrVal},
		{api.Val{}, api.ErrVal},
		{channel(-1), api.ErrVal},
		{of(api.ValRecv, 0, number(1)), api.ErrVal},
		{of(api.ValWrap, 64, never()), api.ErrVal},
	} {
		if e := val.Check(c.v); e != c.e {
			t.Errorf("Check(%v) = %d", c.v, e)
		}
	}
	p := pair(number(1), number(2))
	if val.Size(p) != 3 || !val.IsEvent(never()) || val.IsEvent(unit()) {
		t.Error(val.Size(p), val.IsEvent(never()), val.IsEvent(unit()))
	}
	v, e := val.Send(channel(3), number(5))
	wantVal(t, "Send", v, e, of(api.ValSend, 0, channel(3), number(5)))
	v, e = val.Choose(unit())
	wantNone(t, "Choose", v, e, api.ErrVal)
	v, e = val.Add(number(math.MaxInt64), number(1))
	wantVal(t, "Add", v, e, number(math.MinInt64))
	v, e = val.Sub(number(1), number(2))
	wantVal(t, "Sub", v, e, number(-1))
	v, e = val.Less(number(1), number(2))
	wantVal(t, "Less", v, e, number(1))
	v, e = val.Eq(unit(), unit())
	wantVal(t, "Eq", v, e, number(1))
	v, e = val.Add(unit(), number(1))
	wantNone(t, "Add of a unit", v, e, api.ErrType)
	v, e = val.First(p)
	wantVal(t, "First", v, e, number(1))
	if is, e := val.Truth(number(0)); is || e != api.OK {
		t.Error(is, e)
	}
}

// P4.1: Check of every Kind, at the edges of its shape.
func TestCheck(t *testing.T) {
	for name, v := range valid() {
		if e := val.Check(v); e != api.OK {
			t.Errorf("%s: %d", name, e)
		}
	}
	for name, v := range invalid() {
		if e := val.Check(v); e != api.ErrVal {
			t.Errorf("%s: %d", name, e)
		}
	}
}

// P4.1: Size counts the parts, also those of invalid values, and no further than MaxVal + 1.
func TestSize(t *testing.T) {
	for _, c := range []struct {
		v    api.Val
		size int
	}{
		{api.Val{}, 1},
		{unit(), 1},
		{pair(number(1), number(2)), 3},
		{of(api.ValUnit, 5, unit(), api.Val{}, pair(unit(), unit())), 6},
		{of(99, 0, many(255, api.Val{})...), 256},
		{of(99, 0, many(256, api.Val{})...), 257},
		{of(api.ValPair, 0, many(100000, unit())...), 257},
		{deep(255), 255}, {deep(256), 256}, {deep(257), 257}, {deep(258), 257}, {deep(100000), 257},
		{wide(255), 255}, {wide(257), 257}, {wide(511), 257},
		{bushy(), 257}, {endless(), 257},
	} {
		if size := val.Size(c.v); size != c.size {
			t.Errorf("%d, not %d", size, c.size)
		}
	}
}

// P4.1: IsEvent of valid values of each Kind, and of invalid ones.
func TestIsEvent(t *testing.T) {
	for name, v := range valid() {
		want := v.Kind != api.ValUnit && v.Kind != api.ValInt && v.Kind != api.ValPair && v.Kind != api.ValChan
		if is := val.IsEvent(v); is != want {
			t.Errorf("%s: %v", name, is)
		}
	}
	for name, v := range invalid() {
		if val.IsEvent(v) {
			t.Errorf("%s is an event", name)
		}
	}
}

// P4.1: Same of all pairs of values.
func TestSame(t *testing.T) {
	all := valid()
	for name, v := range invalid() {
		all[name] = v
	}
	for one, a := range all {
		for other, b := range all {
			want := val.Size(a) <= api.MaxVal && val.Size(b) <= api.MaxVal && alike(a, b)
			if got := val.Same(a, b); got != want {
				t.Errorf("%s and %s: %v", one, other, got)
			}
		}
	}
}

// P4.1: values differ by a Kind, a number, a length, or an element; nil and empty lists are equal.
func TestSameDiffers(t *testing.T) {
	base := pair(of(api.ValAlways, 4, number(1)), of(api.ValGuard, 2, unit(), unit()))
	for _, b := range []api.Val{
		pair(of(api.ValAlways, 4, number(2)), of(api.ValGuard, 2, unit(), unit())),
		pair(of(api.ValAlways, 5, number(1)), of(api.ValGuard, 2, unit(), unit())),
		pair(of(api.ValNever, 4, number(1)), of(api.ValGuard, 2, unit(), unit())),
		pair(of(api.ValAlways, 4), of(api.ValGuard, 2, unit(), unit())),
		pair(of(api.ValAlways, 4, number(1)), of(api.ValGuard, 2, unit())),
		pair(of(api.ValAlways, 4, number(1)), of(api.ValGuard, 2, unit(), unit(), unit())),
		pair(of(api.ValGuard, 2, unit(), unit()), of(api.ValAlways, 4, number(1))),
	} {
		if val.Same(base, b) || val.Same(b, base) {
			t.Errorf("the same as %v", b)
		}
	}
	if !val.Same(base, pair(of(api.ValAlways, 4, number(1)), of(api.ValGuard, 2, unit(), unit()))) {
		t.Error("not the same")
	}
	if !val.Same(of(55, 7), api.Val{Kind: 55, N: 7, L: []api.Val{}}) || !val.Same(api.Val{}, api.Val{}) {
		t.Error("an empty list differs")
	}
	if !val.Same(deep(256), deep(256)) || val.Same(deep(257), deep(257)) || val.Same(deep(256), deep(257)) {
		t.Error("the number of parts")
	}
}

// P4.1: Copy, of invalid values too.
func TestCopy(t *testing.T) {
	all := valid()
	for name, v := range invalid() {
		all[name] = v
	}
	for name, v := range all {
		c := val.Copy(v)
		if val.Size(v) > api.MaxVal {
			wantNone(t, name, c, api.OK, api.OK)
		} else if !alike(c, v) {
			t.Errorf("%s: %v", name, c)
		}
	}
}

// P4.1: a copy shares no memory with its original, nor within itself.
func TestCopyShares(t *testing.T) {
	fresh := func() api.Val {
		return pair(of(api.ValGuard, 1, unit(), number(4)), of(api.ValGuard, 1, unit(), pair(unit(), unit())))
	}
	v := fresh()
	c, d := val.Copy(v), val.Copy(v)
	spoil(v)
	if !alike(c, fresh()) {
		t.Error("the copy follows the original")
	}
	spoil(c)
	if !alike(d, fresh()) {
		t.Error("copies share memory")
	}
	v = fresh()
	spoil(val.Copy(v))
	if !alike(v, fresh()) {
		t.Error("the original follows the copy")
	}
	v.L[1] = v.L[0]
	c = val.Copy(v)
	spoil(c.L[0])
	if !alike(c.L[1], fresh().L[0]) {
		t.Error("two lists of a copy share memory")
	}
	c = val.Copy(v)
	_ = append(c.L[0].L, number(9))
	_ = append(c.L, number(9))
	if !alike(c, v) {
		t.Error("a list of a copy reaches the next one")
	}
}
