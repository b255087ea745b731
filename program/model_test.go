package program_test

import (
	"slices"
	"testing"

	"betrothal/api"
	"betrothal/fun"
	"betrothal/program"
)

// numbers yields a fixed sequence of numbers.
type numbers uint64

func (n *numbers) below(most int) int {
	*n = *n*6364136223846793005 + 1442695040888963407
	return int(uint64(*n>>33) % uint64(most))
}

// needs returns how many parameters a function has that a node names, or -1 for a node that names none.
func needs(n api.Node) int {
	switch {
	case !slices.Contains(naming(), n.Op):
		return -1
	case n.Op == api.OpNack:
		return len(n.L) + 1
	}
	return len(n.L)
}

// judge returns the function and the node at which a program is wrong by the definition, or -1.
func judge(p api.Program) (int, int) {
	if len(p.Funs) < 1 || len(p.Funs) > 64 {
		return 0, 0
	}
	for number, f := range p.Funs {
		if at, e := fun.Where(f); e != api.OK {
			return number, at
		}
	}
	if p.Funs[0].Params > 0 {
		return 0, 0
	}
	for number, f := range p.Funs {
		for at, n := range f.Nodes {
			if many := needs(n); many >= 0 && (n.N >= int64(len(p.Funs)) || p.Funs[n.N].Params != many) {
				return number, at
			}
		}
	}
	return -1, -1
}

// reachedIn returns what function 0 of a valid program reaches by the definition: what is reached in a number of steps at most, as long as there is more.
func reachedIn(p api.Program) []told {
	steps := slices.Repeat([]int{64}, len(p.Funs))
	steps[0] = 0
	for range p.Funs {
		for number, f := range p.Funs {
			for _, n := range f.Nodes {
				if needs(n) >= 0 {
					steps[n.N] = min(steps[n.N], steps[number]+1)
				}
			}
		}
	}
	var l []told
	for number, far := range steps {
		if far < 64 {
			l = append(l, told{number, far})
		}
	}
	return l
}

// program makes a valid program of so many functions.
func (n *numbers) program(many int) api.Program {
	params := make([]int, many)
	for i := range many - 1 {
		params[i+1] = max(0, n.below(5)-2)
	}
	p := made()
	for _, one := range params {
		f := of(one)
		n.grow(&f, params, 1+n.below(3))
		p.Funs = append(p.Funs, f)
	}
	return p
}

// grow adds a node to a function, and what is below it.
func (n *numbers) grow(f *api.Fun, params []int, depth int) {
	number := len(f.Nodes)
	f.Nodes = append(f.Nodes, unit())
	if depth == 0 {
		return
	}
	one := node(api.OpChoose, 0, make([]int, n.below(4))...)
	if n.below(3) > 0 {
		one = n.name(params)
	}
	for at := range one.L {
		one.L[at] = len(f.Nodes)
		n.grow(f, params, depth-1)
	}
	if k := len(one.L); k > 1 && n.below(2) == 0 {
		one.L[0], one.L[k-1] = one.L[k-1], one.L[0]
	}
	f.Nodes[number] = one
}

// name makes a node that names a function that it fits; the numbers of its children are not known yet.
func (n *numbers) name(params []int) api.Node {
	named := n.below(len(params))
	many := params[named]
	switch op := naming()[n.below(5)]; {
	case op == api.OpNack && many > 0:
		return node(op, int64(named), make([]int, many-1)...)
	case op == api.OpNack, op == api.OpWrap && many == 0:
		return node(api.OpGuard, int64(named), make([]int, many)...)
	default:
		return node(op, int64(named), make([]int, many)...)
	}
}

// changed returns a program of which one place differs.
func (n *numbers) changed(p api.Program) api.Program {
	q := made(kept(p.Funs)...)
	at := n.below(len(q.Funs))
	f := &q.Funs[at]
	if len(f.Nodes) == 0 {
		return q
	}
	one := &f.Nodes[n.below(len(f.Nodes))]
	switch n.below(12) {
	case 0:
		f.Params = n.below(4)
	case 1, 2, 3, 4:
		if needs(*one) >= 0 {
			one.N = int64(n.below(len(q.Funs) + 2))
		}
	case 5, 6:
		if needs(*one) >= 0 {
			one.Op = naming()[n.below(5)]
		}
	case 7:
		one.Op = api.Op(n.below(26))
	case 8:
		one.N = int64(n.below(66) - 1)
	case 9:
		q.Funs = slices.Delete(q.Funs, at, at+1)
	case 10:
		to := n.below(len(q.Funs))
		q.Funs[at], q.Funs[to] = q.Funs[to], q.Funs[at]
	case 11:
		f.Nodes = append(f.Nodes, unit())
	}
	return q
}

// P7.1 to P7.5: many programs, each compared with the definitions.
func TestModel(t *testing.T) {
	r := numbers(7)
	right, wrong := 0, make(map[[2]int]int)
	for i := range 6000 {
		most := 7
		if i%100 == 0 {
			most = 64
		}
		p := r.program(1 + r.below(most))
		if f, n := judge(p); f != -1 {
			t.Fatalf("%v: wrong at %d, %d", p, f, n)
		}
		for range r.below(3) {
			if len(p.Funs) > 0 {
				p = r.changed(p)
			}
		}
		if f, n := judge(p); f == -1 {
			right++
			compare(t, p, r.program(1+r.below(3)))
		} else {
			wrong[[2]int{f, n}]++
			compareWrong(t, p, f, n)
		}
	}
	if right < 2000 || wrong[[2]int{}] < 200 || len(wrong) < 40 {
		t.Errorf("%d valid programs and others: %v", right, wrong)
	}
}

// compareWrong compares what the package says of a wrong program with the definitions.
func compareWrong(t *testing.T, p api.Program, f, n int) {
	t.Helper()
	wantWrong(t, "model", p, f, n)
	if got := collect(program.Reach(p)); got != nil {
		t.Fatalf("%v: %v", p, got)
	}
	joined, e := program.Join(p, takes(0))
	wantNone(t, "model", joined.Funs, e, api.ErrProgram)
	if c := program.Copy(p); !alike(c, p) || !program.Same(c, p) {
		t.Fatalf("%v: copy %v", p, c)
	}
}

// compare compares what the package says of a valid program, and of another one joined with it, with the definitions.
func compare(t *testing.T, p, q api.Program) {
	t.Helper()
	wantRight(t, "model", p)
	reached := reachedIn(p)
	if got := collect(program.Reach(p)); !slices.Equal(got, reached) {
		t.Fatalf("%v: reaches %v, not %v", p, got, reached)
	}
	size := 0
	for _, f := range p.Funs {
		size += len(f.Nodes)
	}
	if n := program.Size(p); n != size {
		t.Fatalf("%v: size %d", p, n)
	}
	if c := program.Copy(p); !alike(c, p) || program.Same(p, q) != alike(p, q) {
		t.Fatalf("Same or Copy of %v, %v", p, q)
	}
	own := len(p.Funs)
	joined, e := program.Join(p, q.Funs...)
	if own+len(q.Funs) > 64 {
		if e != api.ErrLong && e != api.ErrProgram || joined.Funs != nil {
			t.Fatalf("%d and %d functions: error %d", own, len(q.Funs), e)
		}
		return
	}
	wantFuns(t, "model", joined.Funs, e, append(kept(p.Funs), shiftedBy(q.Funs, own)...)...)
	if got := collect(program.Reach(joined)); !slices.Equal(got, reached) {
		t.Fatalf("%v: joined, it reaches %v, not %v", p, got, reached)
	}
}

// P7.5: shifting by one number and then by another one is shifting by their sum.
func TestShiftTwice(t *testing.T) {
	for name, p := range sound() {
		for one := range 65 {
			first, e := program.Shift(p.Funs, one)
			if e != api.OK {
				continue
			}
			for other := range 65 - one {
				second, e := program.Shift(first, other)
				if e != api.OK {
					continue
				}
				both, e := program.Shift(p.Funs, one+other)
				wantFuns(t, name, both, e, second...)
			}
		}
	}
}

// P7.5: a program joined with nothing is the same program; joined functions name only joined functions; and what function 0 reaches does not change.
func TestJoined(t *testing.T) {
	for name, p := range sound() {
		if q, e := program.Join(p); e != api.OK || !program.Same(p, q) {
			t.Errorf("%s: error %d, %v", name, e, q)
		}
		for other, more := range sound() {
			own := len(p.Funs)
			q, e := program.Join(p, more.Funs...)
			if own+len(more.Funs) > 64 {
				if e == api.OK {
					t.Errorf("%s and %s: %d functions", name, other, len(q.Funs))
				}
				continue
			}
			wantRight(t, name+" and "+other, q)
			for number, f := range q.Funs {
				for _, n := range f.Nodes {
					if needs(n) >= 0 && (n.N >= int64(own)) != (number >= own) {
						t.Errorf("%s and %s: function %d names %d", name, other, number, n.N)
					}
				}
			}
			if !slices.Equal(collect(program.Reach(q)), collect(program.Reach(p))) {
				t.Errorf("%s and %s: others are reached", name, other)
			}
		}
	}
}

// P7.5: a program joined with its own functions except the first one is valid, where Join returns no error.
func TestJoinedRest(t *testing.T) {
	right := 0
	for name, p := range sound() {
		q, e := program.Join(p, p.Funs[1:]...)
		if e != api.OK {
			wantNone(t, name, q.Funs, e, e)
			continue
		}
		right++
		wantRight(t, name, q)
	}
	if right < 4 {
		t.Errorf("%d programs", right)
	}
}
