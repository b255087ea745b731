package cell

import "betrothal/api"

// swapped is what the caller of a swap learns.
type swapped struct {
	was uint64
	did bool
}

// perform makes one access to a cell. The closure gets an access that changes
// nothing, and returns the one to be made with what its caller learns.
func perform[R any](a *Arena, op api.AccessOp, at int, act func(api.Access) (api.Access, R)) (result R, e api.Errno) {
	var x api.Access
	if !a.exists() {
		e = api.ErrNil
		goto done
	}
	if !inside(at, [2]int{0, len(a.cells) - 1}) {
		e = api.ErrRange
		goto done
	}
	x = api.Access{Op: op, At: at, Old: a.cells[at], New: a.cells[at], Did: true}
	x, result = act(x)
	a.cells[at] = x.New
	a.note(x)
done:
	return result, e
}

// Load returns the value of a cell.
func (a *Arena) Load(at int) (uint64, api.Errno) {
	return perform(a, api.AccessLoad, at, func(x api.Access) (api.Access, uint64) {
		return x, x.Old
	})
}

// Store stores a value in a cell.
func (a *Arena) Store(at int, v uint64) api.Errno {
	_, e := perform(a, api.AccessStore, at, func(x api.Access) (api.Access, struct{}) {
		x.New = v
		return x, struct{}{}
	})
	return e
}

// Swap stores a value in a cell if it holds an expected one.
func (a *Arena) Swap(at int, old, new uint64) (was uint64, did bool, e api.Errno) {
	r, e := perform(a, api.AccessSwap, at, func(x api.Access) (api.Access, swapped) {
		x.Did = x.Old == old
		if x.Did {
			x.New = new
		}
		return x, swapped{x.Old, x.Did}
	})
	return r.was, r.did, e
}

// Add adds to the value of a cell.
func (a *Arena) Add(at int, n uint64) (was uint64, e api.Errno) {
	return perform(a, api.AccessAdd, at, func(x api.Access) (api.Access, uint64) {
		x.New += n
		return x, x.Old
	})
}
