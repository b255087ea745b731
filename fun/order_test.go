package fun_test

import (
	"slices"
	"testing"

	"betrothal/api"
	"betrothal/fun"
)

// P6.3: the nodes in evaluation order, each with its Op.
func TestOrder(t *testing.T) {
	for _, c := range []struct {
		name  string
		order []int
	}{
		{"unit", []int{0}},
		{"add 5", []int{1, 2, 0}},
		{"children in reverse", []int{2, 1, 0}},
		{"let", []int{1, 2, 0}},
		{"let, the body first", []int{2, 1, 0}},
		{"let within the value", []int{3, 4, 1, 2, 0}},
		{"if", []int{1, 3, 2, 0}},
		{"levels mixed", []int{3, 5, 1, 4, 2, 0}},
		{"calls", []int{1, 4, 5, 2, 7, 6, 3, 0}},
	} {
		f := sound()[c.name]
		var want []told
		for _, number := range c.order {
			want = append(want, told{number, int(f.Nodes[number].Op)})
		}
		if got := collect(fun.Order(f)); !slices.Equal(got, want) {
			t.Errorf("%s: %v", c.name, got)
		}
	}
	f := chain(200)
	got := collect(fun.Order(f))
	for i, one := range got {
		if one.number != 199-i || one.what != int(f.Nodes[199-i].Op) {
			t.Fatal(i, one)
		}
	}
	if len(got) != 200 {
		t.Error(len(got))
	}
}

// P6.3: the nodes that name functions, by number.
func TestCalls(t *testing.T) {
	for _, c := range []struct {
		name string
		want []told
	}{
		{"unit", nil},
		{"greatest number", nil},
		{"add 5", nil},
		{"most choices", nil},
		{"most of a wrap", []told{{0, 0}}},
		{"calls", []told{{0, 7}, {1, 3}, {2, 0}, {4, 63}, {6, 63}}},
	} {
		if got := collect(fun.Calls(sound()[c.name])); !slices.Equal(got, c.want) {
			t.Errorf("%s: %v", c.name, got)
		}
	}
	for op, r := range rules(1) {
		f := of(1, slices.Concat([]api.Node{node(op, r.greatest, after(0, r.most)...)}, units(r.most))...)
		var want []told
		if r.greatest == 63 {
			want = []told{{0, 63}}
		}
		if got := collect(fun.Calls(f)); !slices.Equal(got, want) {
			t.Errorf("Op %d: %v", op, got)
		}
	}
	f := of(0, node(api.OpPair, 0, 2, 1), node(api.OpCall, 5), node(api.OpSpawn, 5))
	if got := collect(fun.Calls(f)); !slices.Equal(got, []told{{1, 5}, {2, 5}}) {
		t.Error(got)
	}
}

// P6.3: an invalid function has no nodes to be told.
func TestIteratorsInvalid(t *testing.T) {
	for name, c := range faults() {
		order, calls := fun.Order(c.f), fun.Calls(c.f)
		if order == nil || calls == nil {
			t.Fatalf("%s: no iterator", name)
		}
		if got := collect(order); got != nil {
			t.Errorf("%s: %v", name, got)
		}
		if got := collect(calls); got != nil {
			t.Errorf("%s: %v", name, got)
		}
	}
	f := of(0, node(api.OpPair, 0, 1, 2), node(api.OpCall, 5), node(api.OpSpawn, 64))
	if order, calls := collect(fun.Order(f)), collect(fun.Calls(f)); order != nil || calls != nil {
		t.Error(order, calls)
	}
}

// stopped collects what an iterator tells up to a number of nodes.
func stopped[T ~int](s func(func(int, T) bool), most int) []told {
	var l []told
	for number, what := range s {
		l = append(l, told{number, int(what)})
		if len(l) == most {
			break
		}
	}
	return l
}

// P6.3: the loops may stop early, and the iterators may be used again, also within themselves.
func TestIteratorsAgain(t *testing.T) {
	for name, f := range sound() {
		order, calls := fun.Order(f), fun.Calls(f)
		allOrder, allCalls := collect(order), collect(calls)
		for most := 1; most <= len(allOrder); most++ {
			if got := stopped(order, most); !slices.Equal(got, allOrder[:most]) {
				t.Errorf("%s, stopped after %d: %v", name, most, got)
			}
		}
		for most := 1; most <= len(allCalls); most++ {
			if got := stopped(calls, most); !slices.Equal(got, allCalls[:most]) {
				t.Errorf("%s, stopped after %d: %v", name, most, got)
			}
		}
		runs := 0
		for range order {
			if runs++; runs < 5 && (!slices.Equal(collect(order), allOrder) || !slices.Equal(collect(calls), allCalls)) {
				t.Errorf("%s, within itself", name)
			}
		}
		if runs != len(allOrder) {
			t.Errorf("%s: %d runs", name, runs)
		}
		for range calls {
			if !slices.Equal(collect(calls), allCalls) {
				t.Errorf("%s, within itself", name)
			}
		}
	}
}

// P6.3: Order and Calls use the function as it is when they are called.
func TestIteratorsKept(t *testing.T) {
	for name, f := range sound() {
		order, calls := fun.Order(f), fun.Calls(f)
		wantOrder, wantCalls := collect(fun.Order(f)), collect(fun.Calls(f))
		spoil(f)
		if got := collect(order); !slices.Equal(got, wantOrder) {
			t.Errorf("%s: %v", name, got)
		}
		if got := collect(calls); !slices.Equal(got, wantCalls) {
			t.Errorf("%s: %v", name, got)
		}
	}
	f := of(0, node(api.OpFirst, 0, 1), node(api.OpCall, 64))
	order, calls := fun.Order(f), fun.Calls(f)
	f.Nodes[1].N = 5
	if got := collect(order); got != nil {
		t.Error(got)
	}
	if got := collect(calls); got != nil {
		t.Error(got)
	}
}
