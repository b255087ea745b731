package val_test

import (
	"testing"

	"betrothal/api"
	"betrothal/val"
)

// sizeOf counts the parts of a value that has an end.
func sizeOf(v api.Val) int {
	size := 1
	for _, one := range v.L {
		size += sizeOf(one)
	}
	return size
}

// isEvent is the definition of an event.
func isEvent(v api.Val) bool {
	return v.Kind >= api.ValSend && v.Kind <= api.ValCond && isValid(v)
}

// isValid is the definition of a valid value.
func isValid(v api.Val) bool {
	if sizeOf(v) > 256 {
		return false
	}
	for _, one := range v.L {
		if !isValid(one) {
			return false
		}
	}
	n := len(v.L)
	switch v.Kind {
	case api.ValUnit, api.ValNever:
		return v.N == 0 && n == 0
	case api.ValInt:
		return n == 0
	case api.ValPair:
		return v.N == 0 && n == 2
	case api.ValChan, api.ValCond:
		return v.N >= 0 && n == 0
	case api.ValSend:
		return v.N == 0 && n == 2 && v.L[0].Kind == api.ValChan
	case api.ValRecv:
		return v.N == 0 && n == 1 && v.L[0].Kind == api.ValChan
	case api.ValAlways:
		return v.N == 0 && n == 1
	case api.ValChoose:
		return v.N == 0 && n <= 16 && allEvents(v.L)
	case api.ValWrap:
		return v.N >= 0 && v.N <= 63 && n >= 1 && n <= 9 && isEvent(v.L[0])
	case api.ValGuard, api.ValNack:
		return v.N >= 0 && v.N <= 63 && n <= 8
	}
	return false
}

func allEvents(l []api.Val) bool {
	for _, v := range l {
		if !isEvent(v) {
			return false
		}
	}
	return true
}

// P4.1, P4.2, P4.3: many values, each compared with the definitions.
func TestModel(t *testing.T) {
	r := numbers(4)
	valid, wrong := 0, 0
	for range 20000 {
		v := r.any(r.below(5))
		for range r.below(3) {
			v = r.changed(v)
		}
		is := isValid(v)
		if is {
			valid++
		} else {
			wrong++
		}
		compare(t, v, is)
		w := r.changed(v)
		if sizeOf(v) <= 256 && sizeOf(w) <= 256 && val.Same(v, w) != alike(v, w) {
			t.Fatalf("Same(%v, %v)", v, w)
		}
	}
	if valid < 3000 || wrong < 3000 {
		t.Errorf("%d valid values and %d others", valid, wrong)
	}
}

// compare compares what the package says of a value with the definitions.
func compare(t *testing.T, v api.Val, is bool) {
	t.Helper()
	if got := val.Check(v) == api.OK; got != is {
		t.Fatalf("Check(%v): %v", v, got)
	}
	if got := val.IsEvent(v); got != isEvent(v) {
		t.Fatalf("IsEvent(%v): %v", v, got)
	}
	if got := val.Size(v); got != min(sizeOf(v), 257) {
		t.Fatalf("Size(%v): %v", v, got)
	}
	var parts []told
	if is {
		parts = partsOf(v, 0)
	}
	if got := collect(val.Parts(v)); !sameTold(got, parts) {
		t.Fatalf("Parts(%v): %v", v, got)
	}
	made, e := val.Make(v.Kind, v.N, v.L...)
	if is != (e == api.OK) || is && !alike(made, v) {
		t.Fatalf("Make(%v): %v, %d", v, made, e)
	}
}
