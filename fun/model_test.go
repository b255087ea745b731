package fun_test

import (
	"slices"
	"testing"

	"betrothal/api"
	"betrothal/fun"
)

// holder returns the number of the first node that has a node as a child, and where among its children; or -1.
func holder(f api.Fun, number int) (int, int) {
	for i, n := range f.Nodes {
		if at := slices.Index(n.L, number); at >= 0 {
			return i, at
		}
	}
	return -1, -1
}

// variablesAt counts the variables at a node below which and at which all is right.
func variablesAt(f api.Fun, number int) int {
	if number == 0 {
		return f.Params
	}
	parent, at := holder(f, number)
	variables := variablesAt(f, parent)
	if f.Nodes[parent].Op == api.OpLet && at == 1 {
		variables++
	}
	return variables
}

// isWrong is the definition of a wrong node, where all lower ones are right.
func isWrong(f api.Fun, number int) bool {
	n := f.Nodes[number]
	if parent, _ := holder(f, number); number > 0 && (parent < 0 || parent >= number) {
		return true
	}
	variables := variablesAt(f, number)
	r, is := rules(variables)[n.Op]
	if !is || n.N < r.least || n.N > r.greatest || len(n.L) < r.fewest || len(n.L) > r.most || variables > 64 {
		return true
	}
	for at, child := range n.L {
		parent, place := holder(f, child)
		if child <= number || child >= len(f.Nodes) || parent < number || place < at {
			return true
		}
	}
	return false
}

// judge returns the node at which a function is wrong by the definition, or -1.
func judge(f api.Fun) int {
	if f.Params < 0 || f.Params > 9 || len(f.Nodes) < 1 || len(f.Nodes) > 200 {
		return 0
	}
	for number := range f.Nodes {
		if isWrong(f, number) {
			return number
		}
	}
	return -1
}

// orderOf writes down the evaluation order below a node of a valid function, and the node.
func orderOf(f api.Fun, number int) []told {
	var l []told
	for _, child := range f.Nodes[number].L {
		l = append(l, orderOf(f, child)...)
	}
	return append(l, told{number, int(f.Nodes[number].Op)})
}

// numbers yields a fixed sequence of numbers.
type numbers uint64

func (n *numbers) below(most int) int {
	*n = *n*6364136223846793005 + 1442695040888963407
	return int(uint64(*n>>33) % uint64(most))
}

// open is a place for a node that has no number yet.
type open struct {
	parent, at, variables int
}

// fun makes a valid function of some size; its nodes are numbered in any order in which parents are lower.
func (n *numbers) fun(size int) api.Fun {
	f := of(n.below(10))
	places := []open{{-1, 0, f.Params}}
	for len(places) > 0 {
		i := n.below(len(places))
		p := places[i]
		places = slices.Delete(places, i, i+1)
		number := len(f.Nodes)
		if p.parent >= 0 {
			f.Nodes[p.parent].L[p.at] = number
		}
		one := n.node(p.variables, size-number-len(places)-1)
		f.Nodes = append(f.Nodes, one)
		for at := range one.L {
			variables := p.variables
			if one.Op == api.OpLet && at == 1 {
				variables++
			}
			places = append(places, open{number, at, variables})
		}
	}
	return f
}

// node makes a node with at most so many children, whose numbers are not known yet.
func (n *numbers) node(variables, most int) api.Node {
	for {
		op := api.Op(1 + n.below(24))
		if most > 0 && n.below(3) == 0 {
			op = api.OpLet
		}
		r := rules(variables)[op]
		if r.greatest < r.least || r.fewest > most || op == api.OpLet && variables == 64 {
			continue
		}
		number := r.least
		switch {
		case op == api.OpInt:
			number = int64(n.below(100) - 50)
		case r.greatest > r.least:
			number = int64(n.below(int(r.greatest) + 1))
		}
		many := r.fewest + n.below(min(r.most, most)-r.fewest+1)
		return api.Node{Op: op, N: number, L: make([]int, many)}
	}
}

// changed returns a function of which one place differs.
func (n *numbers) changed(f api.Fun) api.Fun {
	g := of(f.Params)
	for _, one := range f.Nodes {
		g.Nodes = append(g.Nodes, node(one.Op, one.N, slices.Clone(one.L)...))
	}
	if len(g.Nodes) == 0 {
		return of(f.Params, unit())
	}
	at := n.below(len(g.Nodes))
	one := &g.Nodes[at]
	switch n.below(10) {
	case 0:
		g.Params = n.below(13) - 2
	case 1, 2:
		one.Op = api.Op(n.below(27) - 1)
	case 3:
		one.N = int64(n.below(70) - 3)
	case 4:
		one.L = append(one.L, n.below(len(g.Nodes)+2)-1)
	case 5:
		g.Nodes = slices.Insert(g.Nodes, at, unit())
	case 6:
		g.Nodes = slices.Delete(g.Nodes, at, at+1)
	default:
		n.rearrange(g, at)
	}
	return g
}

// rearrange changes the children of the first node from a number on that has some.
func (n *numbers) rearrange(g api.Fun, from int) {
	for i := range g.Nodes[from:] {
		l := g.Nodes[from+i].L
		if len(l) == 0 {
			continue
		}
		a, b := n.below(len(l)), n.below(len(l))
		switch n.below(4) {
		case 0:
			l[a] = n.below(len(g.Nodes)+2) - 1
		case 1:
			g.Nodes[from+i].L = slices.Delete(l, a, a+1)
		default:
			l[a], l[b] = l[b], l[a]
		}
		return
	}
}

// P6.1 to P6.5: many functions, each compared with the definitions.
func TestModel(t *testing.T) {
	r := numbers(6)
	right, wrong := 0, make(map[int]int)
	for range 10000 {
		f := r.fun(1 + r.below(30))
		if at := judge(f); at != -1 {
			t.Fatalf("%v: wrong at %d", f, at)
		}
		for range r.below(3) {
			f = r.changed(f)
		}
		at := judge(f)
		if at == -1 {
			right++
			compare(t, f)
		} else {
			wrong[at]++
			compareWrong(t, f, at)
		}
		g := r.changed(f)
		if fun.Same(f, g) != alike(f, g) || !fun.Same(f, fun.Copy(f)) || !alike(f, fun.Copy(f)) {
			t.Fatalf("Same or Copy of %v, %v", f, g)
		}
	}
	if right < 3000 || wrong[0] < 300 || len(wrong) < 20 {
		t.Errorf("%d valid functions and others: %v", right, wrong)
	}
}

// P6.1 to P6.5: great functions.
func TestModelGreat(t *testing.T) {
	r := numbers(66)
	most := 0
	for range 150 {
		f := r.fun(150 + r.below(51))
		if judge(f) != -1 {
			t.Fatal(f)
		}
		compare(t, f)
		most = max(most, len(f.Nodes))
	}
	if most < 190 {
		t.Error(most)
	}
}

// compareWrong compares what the package says of a wrong function with the definitions.
func compareWrong(t *testing.T, f api.Fun, at int) {
	t.Helper()
	if got, e := fun.Where(f); got != at || e != api.ErrFun || fun.Check(f) != api.ErrFun {
		t.Fatalf("%v: wrong at %d, error %d, not wrong at %d", f, got, e, at)
	}
	for number := -1; number <= len(f.Nodes); number++ {
		if depth, e := fun.Depth(f, number); depth != 0 || e != api.ErrFun {
			t.Fatalf("%v: depth %d at %d, error %d", f, depth, number, e)
		}
		if parent, e := fun.Parent(f, number); parent != 0 || e != api.ErrFun {
			t.Fatalf("%v: parent %d of %d, error %d", f, parent, number, e)
		}
	}
	if order, calls := collect(fun.Order(f)), collect(fun.Calls(f)); order != nil || calls != nil {
		t.Fatalf("%v: %v, %v", f, order, calls)
	}
}

// compare compares what the package says of a valid function with the definitions.
func compare(t *testing.T, f api.Fun) {
	t.Helper()
	if got, e := fun.Where(f); got != 0 || e != api.OK || fun.Check(f) != api.OK {
		t.Fatalf("%v: wrong at %d, error %d", f, got, e)
	}
	if got := collect(fun.Order(f)); !slices.Equal(got, orderOf(f, 0)) {
		t.Fatalf("%v: %v", f, got)
	}
	var calls []told
	for number, n := range f.Nodes {
		if depth, e := fun.Depth(f, number); depth != variablesAt(f, number) || e != api.OK {
			t.Fatalf("%v: depth %d at %d, error %d", f, depth, number, e)
		}
		parent, e := fun.Parent(f, number)
		want, _ := holder(f, number)
		if number > 0 && (parent != want || e != api.OK) || number == 0 && (parent != 0 || e != api.ErrNone) {
			t.Fatalf("%v: parent %d of %d, error %d", f, parent, number, e)
		}
		if rules(0)[n.Op].greatest == 63 {
			calls = append(calls, told{number, int(n.N)})
		}
	}
	if got := collect(fun.Calls(f)); !slices.Equal(got, calls) {
		t.Fatalf("%v: %v", f, got)
	}
	consequences(t, f)
}

// consequences checks P6.5 of a valid function, by the calls alone.
func consequences(t *testing.T, f api.Fun) {
	t.Helper()
	visited := make(map[int]int)
	last := -1
	for number := range fun.Order(f) {
		visited[number] = len(visited)
		last = number
	}
	if len(visited) != len(f.Nodes) || last != 0 {
		t.Fatalf("%v: %d nodes in evaluation order, the last one %d", f, len(visited), last)
	}
	for number := 1; number < len(f.Nodes); number++ {
		parent, _ := fun.Parent(f, number)
		depth, _ := fun.Depth(f, number)
		above, _ := fun.Depth(f, parent)
		if f.Nodes[parent].Op == api.OpLet && f.Nodes[parent].L[1] == number {
			above++
		}
		if parent >= number || visited[parent] <= visited[number] || depth != above {
			t.Fatalf("%v: node %d and its parent %d", f, number, parent)
		}
	}
}
