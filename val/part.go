package val

import (
	"iter"

	"betrothal/api"
)

// part is a part of a value, and how deep it lies in it.
type part struct {
	api.Val
	depth int
}

// walk visits the parts of a value, each with its number and before its own parts. The loop must be left by who runs it where the value has no end, because a list may contain itself.
func walk(v api.Val) iter.Seq2[int, part] {
	return func(yield func(int, part) bool) {
		number := 0
		var visit func(p part) bool
		visit = func(p part) bool {
			if !yield(number, p) {
				return false
			}
			number++
			for _, element := range p.L {
				if !visit(part{element, p.depth + 1}) {
					return false
				}
			}
			return true
		}
		visit(part{Val: v})
	}
}

// flaw is what is raised for a value that a function does not take.
type flaw api.Errno

// demand raises what is invalid among the values.
func demand(l ...api.Val) {
	known := shapes()
	for _, v := range l {
		for number, p := range walk(v) {
			if number >= api.MaxVal || !p.fits(known) {
				panic(flaw(api.ErrVal))
			}
		}
	}
}

// demandKind raises a value of another Kind.
func demandKind(k api.ValKind, l ...api.Val) {
	for _, v := range l {
		if v.Kind != k {
			panic(flaw(api.ErrType))
		}
	}
}

// raised returns the error that was raised, or OK; what is not a value's flaw is raised again, because no value is at fault.
func raised(what any) api.Errno {
	if what == nil {
		return api.OK
	}
	found, is := what.(flaw)
	if !is {
		panic(what)
	}
	return api.Errno(found)
}
