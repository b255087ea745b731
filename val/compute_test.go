package val_test

import (
	"math"
	"slices"
	"testing"

	"betrothal/api"
	"betrothal/val"
)

// edges are numbers at and about the bounds.
var edges = []int64{0, 1, -1, 2, -2, 63, math.MaxInt32, math.MinInt32, 1 << 62, -1 << 62, math.MaxInt64, math.MaxInt64 - 1, math.MinInt64, math.MinInt64 + 1}

// P4.4: Add and Sub.
func TestAddSub(t *testing.T) {
	for _, c := range []struct{ a, b, sum, difference int64 }{
		{2, 3, 5, -1},
		{-2, 3, 1, -5},
		{0, 0, 0, 0},
		{math.MaxInt64, 1, math.MinInt64, math.MaxInt64 - 1},
		{math.MinInt64, 1, math.MinInt64 + 1, math.MaxInt64},
		{math.MinInt64, -1, math.MaxInt64, math.MinInt64 + 1},
		{math.MinInt64, math.MinInt64, 0, 0},
		{math.MaxInt64, math.MaxInt64, -2, 0},
		{0, math.MinInt64, math.MinInt64, math.MinInt64},
		{-1, math.MinInt64, math.MaxInt64, math.MaxInt64},
	} {
		v, e := val.Add(number(c.a), number(c.b))
		wantVal(t, "Add", v, e, number(c.sum))
		v, e = val.Sub(number(c.a), number(c.b))
		wantVal(t, "Sub", v, e, number(c.difference))
	}
}

// P4.5: Sub of Add and the second number returns the first one; exactly one of less, greater and equal holds.
func TestNumbers(t *testing.T) {
	for _, a := range edges {
		for _, b := range edges {
			sum, e := val.Add(number(a), number(b))
			if e != api.OK {
				t.Fatal(e)
			}
			back, e := val.Sub(sum, number(b))
			wantVal(t, "Sub of Add", back, e, number(a))
			less, _ := val.Less(number(a), number(b))
			greater, _ := val.Less(number(b), number(a))
			equal, _ := val.Eq(number(a), number(b))
			if less.N+greater.N+equal.N != 1 || (less.N == 1) != (a < b) || (equal.N == 1) != (a == b) {
				t.Errorf("%d and %d: %v %v %v", a, b, less, greater, equal)
			}
			for _, v := range []api.Val{less, greater, equal} {
				if v.Kind != api.ValInt || v.N < 0 || v.N > 1 || v.L != nil {
					t.Errorf("%d and %d: %v", a, b, v)
				}
			}
		}
	}
}

// P4.4: Eq of valid values.
func TestEq(t *testing.T) {
	for one, a := range valid() {
		for other, b := range valid() {
			want := int64(0)
			if one == other {
				want = 1
			}
			v, e := val.Eq(a, b)
			wantVal(t, "Eq of "+one+" and "+other, v, e, number(want))
		}
	}
}

// P4.4: ErrVal for invalid values, whichever of them it is, before ErrType.
func TestInvalid(t *testing.T) {
	two := map[string]func(a, b api.Val) (api.Val, api.Errno){"Add": val.Add, "Sub": val.Sub, "Less": val.Less, "Eq": val.Eq}
	for name, bad := range invalid() {
		for what, do := range two {
			for _, good := range []api.Val{number(1), unit(), bad} {
				v, e := do(bad, good)
				wantNone(t, what+" of "+name, v, e, api.ErrVal)
				v, e = do(good, bad)
				wantNone(t, what+" with "+name, v, e, api.ErrVal)
			}
		}
		v, e := val.First(bad)
		wantNone(t, "First of "+name, v, e, api.ErrVal)
		v, e = val.Second(bad)
		wantNone(t, "Second of "+name, v, e, api.ErrVal)
		if is, e := val.Truth(bad); is || e != api.ErrVal {
			t.Errorf("Truth of %s: %v, %d", name, is, e)
		}
	}
}

// P4.4: ErrType for values of another Kind.
func TestType(t *testing.T) {
	two := map[string]func(a, b api.Val) (api.Val, api.Errno){"Add": val.Add, "Sub": val.Sub, "Less": val.Less}
	for name, x := range valid() {
		if x.Kind != api.ValInt {
			for what, do := range two {
				v, e := do(x, number(1))
				wantNone(t, what+" of "+name, v, e, api.ErrType)
				v, e = do(number(1), x)
				wantNone(t, what+" with "+name, v, e, api.ErrType)
				v, e = do(x, x)
				wantNone(t, what+" of two "+name, v, e, api.ErrType)
			}
			if is, e := val.Truth(x); is || e != api.ErrType {
				t.Errorf("Truth of %s: %v, %d", name, is, e)
			}
		}
		if x.Kind != api.ValPair {
			v, e := val.First(x)
			wantNone(t, "First of "+name, v, e, api.ErrType)
			v, e = val.Second(x)
			wantNone(t, "Second of "+name, v, e, api.ErrType)
		}
	}
}

// P4.4: Truth of numbers.
func TestTruth(t *testing.T) {
	for _, n := range edges {
		if is, e := val.Truth(number(n)); is != (n != 0) || e != api.OK {
			t.Errorf("%d: %v, %d", n, is, e)
		}
	}
}

// P4.4 and P4.5: First and Second of a pair return the values of which it was made, as new memory.
func TestHalves(t *testing.T) {
	all := valid()
	for one, a := range all {
		for other, b := range all {
			if val.Size(a)+val.Size(b) >= api.MaxVal {
				continue
			}
			p := must(t)(val.Pair(a, b))
			v, e := val.First(p)
			wantVal(t, "First of "+one+" and "+other, v, e, a)
			w, e := val.Second(p)
			wantVal(t, "Second of "+one+" and "+other, w, e, b)
			spoil(v)
			spoil(w)
			if !alike(p, pair(a, b)) {
				t.Fatalf("%s and %s share memory with their pair", one, other)
			}
		}
	}
	p := pair(pair(number(1), number(2)), pair(number(3), number(4)))
	v, e := val.First(p)
	spoil(p)
	wantVal(t, "First of a pair that changed", v, e, pair(number(1), number(2)))
}

// What is passed to the functions is not changed.
func TestArguments(t *testing.T) {
	room := []api.Val{number(1), pair(unit(), unit()), number(3), number(4)}
	was := []api.Val{number(1), pair(unit(), unit()), number(3), number(4)}
	v := of(api.ValPair, 0, room[:2]...)
	val.Check(v)
	val.Size(v)
	val.IsEvent(v)
	val.Same(v, v)
	val.Copy(v)
	collect(val.Parts(v))
	val.Add(v, v)
	val.Eq(v, v)
	val.First(v)
	val.Second(v)
	val.Truth(v)
	if !slices.EqualFunc(room, was, alike) {
		t.Error(room)
	}
}
