package program

import (
	"iter"

	"betrothal/api"
	"betrothal/fun"
)

// position is the number of a function, and that of a node in it.
type position [2]int

// fault is what is raised: an error, and the position that it concerns, if there is one.
type fault struct {
	at position
	e  api.Errno
}

// view is a program that is looked at, and the position at which it is.
type view struct {
	api.Program
	at position
}

// examine raises the position at which a program is wrong, if it is.
func examine(p api.Program) {
	v := &view{Program: p}
	v.demand(len(v.Funs) >= 1 && len(v.Funs) <= api.MaxFuns)
	for number, f := range v.Funs {
		node, e := fun.Where(f)
		v.at = position{number, node}
		v.demand(e == api.OK)
	}
	v.at = position{}
	v.demand(v.Funs[0].Params == 0)
	for at, n := range v.calls() {
		v.at = at
		v.demand(v.fits(n))
	}
}

// demand raises the position that is looked at, unless all is right there.
func (v *view) demand(right bool) {
	if !right {
		panic(fault{v.at, api.ErrProgram})
	}
}

// calls visits the nodes that name functions, each with its position.
func (v *view) calls() iter.Seq2[position, api.Node] {
	return func(yield func(position, api.Node) bool) {
		for number, f := range v.Funs {
			for node := range fun.Calls(f) {
				if !yield(position{number, node}, f.Nodes[node]) {
					return
				}
			}
		}
	}
}

// fits reports whether the function that a node names exists, and takes what the node passes to it.
func (v *view) fits(n api.Node) bool {
	if n.N >= int64(len(v.Funs)) {
		return false
	}
	passed := len(n.L)
	if n.Op == api.OpNack {
		// The condition is passed as well.
		passed++
	}
	return v.Funs[n.N].Params == passed
}

// caught returns the fault that was raised, or none if nothing was; what is not a fault is raised again, because no argument is wrong.
func caught(what any) fault {
	if what == nil {
		return fault{}
	}
	found, is := what.(fault)
	if !is {
		panic(what)
	}
	return found
}
