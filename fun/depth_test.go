package fun_test

import (
	"math"
	"testing"

	"betrothal/api"
	"betrothal/fun"
)

// P6.2: the variables at each node, and the parent of each.
func TestDepthParent(t *testing.T) {
	none := -1
	for _, c := range []struct {
		name    string
		depths  []int
		parents []int
	}{
		{"unit", []int{0}, []int{none}},
		{"most parameters", []int{9}, []int{none}},
		{"add 5", []int{1, 1, 1}, []int{none, 0, 0}},
		{"children in reverse", []int{1, 1, 1}, []int{none, 0, 0}},
		{"let", []int{0, 0, 1}, []int{none, 0, 0}},
		{"let, the body first", []int{2, 3, 2}, []int{none, 0, 0}},
		{"let within the value", []int{0, 0, 1, 0, 1}, []int{none, 0, 0, 1, 1}},
		{"if", []int{0, 0, 0, 0}, []int{none, 0, 0, 0}},
		{"levels mixed", []int{0, 0, 0, 0, 0, 0}, []int{none, 0, 0, 1, 2, 1}},
		{"calls", []int{1, 1, 1, 1, 1, 1, 1, 1}, []int{none, 0, 0, 0, 2, 2, 3, 6}},
	} {
		f := sound()[c.name]
		for number := range f.Nodes {
			depth, e := fun.Depth(f, number)
			wantNumber(t, "Depth in "+c.name, depth, e, c.depths[number])
			parent, e := fun.Parent(f, number)
			if c.parents[number] == none {
				wantNone(t, "Parent in "+c.name, parent, e, api.ErrNone)
			} else {
				wantNumber(t, "Parent in "+c.name, parent, e, c.parents[number])
			}
		}
	}
}

// P6.2: variables up to the most that there may be.
func TestDepthMost(t *testing.T) {
	f := lets(9, 55)
	for i := range 55 {
		depth, e := fun.Depth(f, 2*i)
		wantNumber(t, "Depth of a let", depth, e, 9+i)
		depth, e = fun.Depth(f, 2*i+1)
		wantNumber(t, "Depth of a value", depth, e, 9+i)
		parent, e := fun.Parent(f, 2*i+2)
		wantNumber(t, "Parent of a body", parent, e, 2*i)
	}
	depth, e := fun.Depth(f, 110)
	wantNumber(t, "Depth of the last body", depth, e, 64)
	f = chain(200)
	parent, e := fun.Parent(f, 199)
	wantNumber(t, "Parent of the last node", parent, e, 198)
}

// P6.2: ErrFun before ErrRange and ErrNone, and ErrRange for numbers of no node.
func TestDepthParentErrors(t *testing.T) {
	for name, f := range sound() {
		for _, number := range []int{-1, len(f.Nodes), len(f.Nodes) + 1, 200, 1 << 32, math.MinInt, math.MaxInt} {
			if number >= 0 && number < len(f.Nodes) {
				continue
			}
			depth, e := fun.Depth(f, number)
			wantNone(t, "Depth in "+name, depth, e, api.ErrRange)
			parent, e := fun.Parent(f, number)
			wantNone(t, "Parent in "+name, parent, e, api.ErrRange)
		}
	}
	for name, c := range faults() {
		for _, number := range []int{0, 1, c.at, -1, len(c.f.Nodes), math.MinInt, math.MaxInt} {
			depth, e := fun.Depth(c.f, number)
			wantNone(t, "Depth in "+name, depth, e, api.ErrFun)
			parent, e := fun.Parent(c.f, number)
			wantNone(t, "Parent in "+name, parent, e, api.ErrFun)
		}
	}
}
