package fun_test

import (
	"math"
	"slices"
	"testing"

	"betrothal/api"
	"betrothal/fun"
)

// P6.4: Same of all pairs of functions, valid or not.
func TestSame(t *testing.T) {
	some := all()
	for one, a := range some {
		for other, b := range some {
			if got := fun.Same(a, b); got != alike(a, b) {
				t.Errorf("%s and %s: %v", one, other, got)
			}
		}
	}
	if !fun.Same(api.Fun{}, api.Fun{Nodes: []api.Node{}}) || !fun.Same(of(0, node(99, 7)), of(0, api.Node{Op: 99, N: 7, L: []int{}})) {
		t.Error("an empty list differs")
	}
}

// P6.4: functions differ by their Params, and by an Op, a number, a length, or a child of one node.
func TestSameDiffers(t *testing.T) {
	f := of(1, node(api.OpAdd, 0, 1, 2), node(api.OpVar, 0), node(api.OpInt, 5))
	for _, g := range []api.Fun{
		of(2, node(api.OpAdd, 0, 1, 2), node(api.OpVar, 0), node(api.OpInt, 5)),
		of(1, node(api.OpSub, 0, 1, 2), node(api.OpVar, 0), node(api.OpInt, 5)),
		of(1, node(api.OpAdd, 1, 1, 2), node(api.OpVar, 0), node(api.OpInt, 5)),
		of(1, node(api.OpAdd, 0, 2, 1), node(api.OpVar, 0), node(api.OpInt, 5)),
		of(1, node(api.OpAdd, 0, 1), node(api.OpVar, 0), node(api.OpInt, 5)),
		of(1, node(api.OpAdd, 0, 1, 2, 3), node(api.OpVar, 0), node(api.OpInt, 5)),
		of(1, node(api.OpAdd, 0, 1, 2), node(api.OpInt, 0), node(api.OpInt, 5)),
		of(1, node(api.OpAdd, 0, 1, 2), node(api.OpVar, 0), node(api.OpInt, 5+1<<32)),
		of(1, node(api.OpAdd, 0, 1, 2), node(api.OpInt, 5), node(api.OpVar, 0)),
		of(1, node(api.OpAdd, 0, 1, 2), node(api.OpVar, 0)),
		of(1, node(api.OpAdd, 0, 1, 2), node(api.OpVar, 0), node(api.OpInt, 5), unit()),
		of(1),
	} {
		if fun.Same(f, g) || fun.Same(g, f) {
			t.Errorf("the same as %v", g)
		}
	}
	if !fun.Same(f, of(1, node(api.OpAdd, 0, 1, 2), node(api.OpVar, 0), node(api.OpInt, 5))) {
		t.Error("not the same")
	}
}

// P6.4: a copy is equal, of functions that are not valid too.
func TestCopy(t *testing.T) {
	for name, f := range all() {
		c := fun.Copy(f)
		if !alike(c, f) || !fun.Same(c, f) {
			t.Errorf("%s: %v", name, c)
		}
		want, wantError := fun.Where(f)
		if at, e := fun.Where(c); at != want || e != wantError {
			t.Errorf("%s: %d, error %d", name, at, e)
		}
	}
	f := of(math.MinInt, node(math.MaxInt, math.MinInt64, math.MaxInt, math.MinInt, 0), api.Node{})
	if c := fun.Copy(f); !alike(c, f) {
		t.Error(c)
	}
}

// P6.4: a copy shares no memory with its original or with another copy, nor within itself.
func TestCopyShares(t *testing.T) {
	fresh := func() api.Fun {
		return of(2, node(api.OpPair, 0, 1, 2), node(api.OpAdd, 0, 3, 4), node(api.OpFirst, 0, 5), node(api.OpVar, 1), unit(), unit())
	}
	f := fresh()
	c, d := fun.Copy(f), fun.Copy(f)
	spoil(f)
	if !alike(c, fresh()) {
		t.Error("the copy follows the original")
	}
	spoil(c)
	if !alike(d, fresh()) {
		t.Error("copies share memory")
	}
	f = fresh()
	spoil(fun.Copy(f))
	if !alike(f, fresh()) {
		t.Error("the original follows the copy")
	}
	shared := []int{1, 2}
	f = of(0, node(api.OpPair, 0, shared...), node(api.OpPair, 0, shared...), node(api.OpFirst, 0, shared[:1]...))
	c = fun.Copy(f)
	for i := range c.Nodes {
		c = fun.Copy(f)
		l := c.Nodes[i].L[:cap(c.Nodes[i].L)]
		for j := range l {
			l[j] = -7
		}
		_ = append(c.Nodes[i].L, -8)
		for k := range c.Nodes {
			if k != i && !slices.Equal(c.Nodes[k].L, f.Nodes[k].L) {
				t.Errorf("the children of %d and %d share memory", i, k)
			}
		}
	}
}

// What is passed to the functions is not changed, nor is what lies behind it.
func TestArguments(t *testing.T) {
	room := []int{1, 2, 3, 4, 5}
	nodes := []api.Node{node(api.OpPair, 0, room[:2]...), node(api.OpCall, 3), unit(), node(api.OpWrap, 9, room[3:4]...)}
	f := api.Fun{Params: 1, Nodes: nodes[:3]}
	fun.Check(f)
	fun.Where(f)
	fun.Depth(f, 1)
	fun.Parent(f, 1)
	collect(fun.Order(f))
	collect(fun.Calls(f))
	fun.Same(f, f)
	spoil(fun.Copy(f))
	want := []api.Node{node(api.OpPair, 0, 1, 2), node(api.OpCall, 3), unit(), node(api.OpWrap, 9, 4)}
	if !alike(of(1, nodes...), of(1, want...)) || !slices.Equal(room, []int{1, 2, 3, 4, 5}) {
		t.Error(nodes, room)
	}
}
