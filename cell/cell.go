// Package cell implements layer 1: see shared/doc/01-cell.md.
package cell

import (
	"iter"
	"slices"

	"betrothal/api"
)

// Arena is a set of memory cells.
type Arena struct {
	log
	cells []uint64
	most  int
}

// exists is false for a nil arena and for a zero one, which New never returns.
func (a *Arena) exists() bool { return a != nil && a.most > 0 }

// inside reports whether a number lies within bounds, both of which belong to them.
func inside(n int, bounds [2]int) bool { return bounds[0] <= n && n <= bounds[1] }

// New returns an arena without cells.
func New(most int) (*Arena, api.Errno) {
	var a *Arena
	e := api.OK
	if !inside(most, [2]int{1, api.MaxCells}) {
		e = api.ErrArg
		goto done
	}
	a = &Arena{most: most}
done:
	return a, e
}

// Alloc appends cells that hold 0.
func (a *Arena) Alloc(n int) (at int, e api.Errno) {
	if !a.exists() {
		e = api.ErrNil
		goto done
	}
	if n < 0 {
		e = api.ErrArg
		goto done
	}
	if n > a.most-len(a.cells) {
		e = api.ErrFull
		goto done
	}
	at = len(a.cells)
	a.extend(make([]uint64, n)...)
done:
	return at, e
}

// extend appends cells. It cuts off the capacity beyond the maximum, since no
// cell is ever put there.
func (a *Arena) extend(cells ...uint64) {
	grown := append(a.cells, cells...)
	a.cells = grown[:len(grown):min(cap(grown), a.most)]
}

// Len returns the number of cells.
func (a *Arena) Len() int {
	if !a.exists() {
		return 0
	}
	return len(a.cells)
}

// Most returns the maximum number of cells.
func (a *Arena) Most() int {
	if !a.exists() {
		return 0
	}
	return a.most
}

// Count returns the number of accesses.
func (a *Arena) Count() uint64 {
	if !a.exists() {
		return 0
	}
	return a.count
}

// Log returns an iterator over the last accesses.
func (a *Arena) Log() iter.Seq2[uint64, api.Access] {
	if !a.exists() {
		return func(func(uint64, api.Access) bool) {}
	}
	// The iterator tells the accesses as they are now, whenever it is used.
	now := a.snapshot()
	return func(yield func(uint64, api.Access) bool) {
	telling:
		for number, x := range now.accesses() {
			if !yield(number, x) {
				break telling
			}
		}
	}
}

// Copy returns an independent arena with the same contents.
func (a *Arena) Copy() *Arena {
	if !a.exists() {
		return nil
	}
	b := &Arena{log: a.snapshot(), most: a.most}
	b.extend(a.cells[:len(a.cells):len(a.cells)]...)
	return b
}

// Same reports whether two arenas are equal.
func Same(a, b *Arena) bool {
	if !a.exists() || !b.exists() {
		return a.exists() == b.exists()
	}
	return a.most == b.most && slices.Equal(a.cells, b.cells)
}
