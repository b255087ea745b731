package fun

import (
	"iter"
	"slices"

	"betrothal/api"
)

// nobody stands for the parent of a node that has none.
const nobody = -1

// view is a function that is looked at, and what is known of its nodes: the parent of each, and the number of variables at it.
type view struct {
	api.Fun
	parents   []int
	variables []int
}

// examine returns the view of a valid function, and raises the first wrong node of another one. What is known of a node comes from lower nodes alone, and these are right when it is looked at.
func examine(f api.Fun) *view {
	v := &view{Fun: f}
	if !within(v.Params, 0, api.MaxParams) || !within(len(v.Nodes), 1, api.MaxNodes) {
		panic(wrong(0))
	}
	v.parents = slices.Repeat([]int{nobody}, len(v.Nodes))
	v.variables = make([]int, len(v.Nodes))
	v.variables[0] = v.Params
	known := shapes()
	for node := range v.Nodes {
		if !v.fits(node, known) {
			panic(wrong(node))
		}
		v.adopt(node)
	}
	return v
}

// fits reports whether a node has a parent, or is the root, and has the shape of its Op and no more variables than there may be.
func (v *view) fits(node int, known [ops]shape) bool {
	n := v.Nodes[node]
	if node > 0 && v.parents[node] == nobody || v.variables[node] > api.MaxDepth || n.Op <= api.OpNone || n.Op >= ops {
		return false
	}
	s := known[n.Op]
	return s.number(n.N, v.variables[node]) && s.children(len(n.L))
}

// adopt makes a node the parent of its children, and raises it if one of them cannot be its child.
func (v *view) adopt(node int) {
	n := v.Nodes[node]
	for place, child := range n.L {
		if !within(child, node+1, len(v.Nodes)-1) || v.parents[child] != nobody {
			panic(wrong(node))
		}
		v.parents[child] = node
		v.variables[child] = v.variables[node]
		if n.Op == api.OpLet && place == 1 {
			v.variables[child]++
		}
	}
}

// has reports whether there is a node with a number.
func (v *view) has(node int) bool { return within(node, 0, len(v.Nodes)-1) }

// rising visits the nodes of a valid function, each after all that is below it.
func rising(f api.Fun) iter.Seq2[int, api.Node] {
	return func(yield func(int, api.Node) bool) {
		var visit func(node int) bool
		visit = func(node int) bool {
			for _, child := range f.Nodes[node].L {
				if !visit(child) {
					return false
				}
			}
			return yield(node, f.Nodes[node])
		}
		visit(0)
	}
}

// filter visits the items that are to be kept, with their numbers.
func filter[I any](all iter.Seq2[int, I], keep func(item I) bool) iter.Seq2[int, I] {
	return func(yield func(int, I) bool) {
		for number, item := range all {
			if keep(item) && !yield(number, item) {
				return
			}
		}
	}
}

// wrong is what is raised for a wrong node: its number.
type wrong int

// raised returns the node and the error of what was raised, or the error that is returned otherwise; what is not a wrong node is raised again, because no function is at fault.
func raised(what any, otherwise api.Errno) (int, api.Errno) {
	if what == nil {
		return 0, otherwise
	}
	node, is := what.(wrong)
	if !is {
		panic(what)
	}
	return int(node), api.ErrFun
}
