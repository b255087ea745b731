package program_test

import (
	"testing"

	"betrothal/api"
	"betrothal/program"
)

// P7.4: the number of nodes of all functions, of programs that are not valid too.
func TestSize(t *testing.T) {
	for _, c := range []struct {
		name string
		size int
	}{
		{"chapter", 3},
		{"not reached", 4},
		{"unit", 1},
		{"every Op", 16},
		{"most functions", 128},
		{"twice", 8},
		{"none", 0},
		{"empty", 0},
		{"function 0 with", 1},
		{"no nodes", 0},
		{"no nodes, later", 1},
		{"65 functions", 65},
		{"65 functions, all invalid", 195},
		{"far too many functions", 100000},
		{"invalid twice", 5},
		{"far from any", 3},
	} {
		if n := program.Size(all()[c.name]); n != c.size {
			t.Errorf("%s: %d, not %d", c.name, n, c.size)
		}
	}
	if n := program.Size(made(of(0, units(201)...), of(-1, units(7)...))); n != 208 {
		t.Error(n)
	}
}

// P7.4: Same of all pairs of programs, valid or not.
func TestSame(t *testing.T) {
	some := all()
	for one, a := range some {
		for other, b := range some {
			if got := program.Same(a, b); got != alike(a, b) {
				t.Errorf("%s and %s: %v", one, other, got)
			}
		}
	}
	if !program.Same(api.Program{}, api.Program{Funs: []api.Fun{}}) {
		t.Error("an empty list differs")
	}
	if !program.Same(made(api.Fun{}, of(0, node(99, 7))), made(api.Fun{Nodes: []api.Node{}}, of(0, api.Node{Op: 99, N: 7, L: []int{}}))) {
		t.Error("an empty list inside differs")
	}
}

// P7.4: programs differ by a function, by the order, and by their length.
func TestSameDiffers(t *testing.T) {
	f0, f1, f2 := chapter()
	p := made(f0, f1, f2)
	for _, q := range []api.Program{
		made(f0, f1),
		made(f1, f2),
		made(f0, f1, f2, f2),
		made(f0, f2, f1),
		made(f1, f0, f2),
		made(f0, f1, f1),
		made(f0, f1, takes(1)),
		made(f0, takes(1), f2),
		made(f0, of(1, node(api.OpVar, 1<<32)), f2),
		made(of(0, node(api.OpCall, 1, 1), node(api.OpInt, 6)), f1, f2),
		made(of(0, node(api.OpSpawn, 1, 1), node(api.OpInt, 5)), f1, f2),
		made(of(0, node(api.OpCall, 1, 2), node(api.OpInt, 5)), f1, f2),
		made(),
	} {
		if program.Same(p, q) || program.Same(q, p) {
			t.Errorf("the same as %v", q)
		}
	}
	if !program.Same(p, made(kept(p.Funs)...)) {
		t.Error("not the same")
	}
}

// P7.4: a copy is equal, of programs that are not valid too.
func TestCopy(t *testing.T) {
	for name, p := range all() {
		c := program.Copy(p)
		if !alike(c, p) || !program.Same(c, p) {
			t.Errorf("%s: %d functions", name, len(c.Funs))
		}
		wantFun, wantNode, wantError := program.Where(p)
		if f, n, e := program.Where(c); f != wantFun || n != wantNode || e != wantError {
			t.Errorf("%s: %d, %d, error %d", name, f, n, e)
		}
	}
}

// P7.4: a copy shares no memory with its original or with another copy, nor within itself.
func TestCopyShares(t *testing.T) {
	wantApart(t, "Copy", func() ([]api.Fun, [][]api.Fun) {
		l := shared()
		other := program.Copy(made(l...)).Funs
		return program.Copy(made(l...)).Funs, [][]api.Fun{l, other}
	})
	for name, p := range all() {
		if len(p.Funs) > 100 {
			continue
		}
		wantApart(t, name, func() ([]api.Fun, [][]api.Fun) {
			l := kept(p.Funs)
			return program.Copy(made(l...)).Funs, [][]api.Fun{l}
		})
	}
}
