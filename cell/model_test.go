package cell_test

import (
	"testing"

	"betrothal/api"
	"betrothal/cell"
)

// numbers yields a fixed sequence of numbers.
type numbers uint64

func (n *numbers) below(most uint64) uint64 {
	*n = *n*6364136223846793005 + 1442695040888963407
	return uint64(*n>>33) % most
}

// twin is an arena and what it has to be.
type twin struct {
	a     *cell.Arena
	cells []uint64
	log   []entry
}

// note adds an access to what has to be.
func (w *twin) note(op api.AccessOp, at int, v uint64, did bool) {
	x := api.Access{Op: op, At: at, Old: w.cells[at], New: v, Did: did}
	w.log = append(w.log, entry{uint64(len(w.log)), x})
	w.cells[at] = v
}

// act makes one call on both and compares what it returns.
func (w *twin) act(t *testing.T, n *numbers) {
	at := int(n.below(uint64(len(w.cells))))
	held, v, old := w.cells[at], n.below(4)-1, n.below(4)-1
	switch n.below(5) {
	case 0:
		if got, e := w.a.Load(at); got != held || e != api.OK {
			t.Fatalf("Load(%d) = %d, %v", at, got, e)
		}
		w.note(api.AccessLoad, at, held, true)
	case 1:
		if e := w.a.Store(at, v); e != api.OK {
			t.Fatalf("Store(%d, %d) = %v", at, v, e)
		}
		w.note(api.AccessStore, at, v, true)
	case 2, 3:
		was, did, e := w.a.Swap(at, old, v)
		if was != held || did != (held == old) || e != api.OK {
			t.Fatalf("Swap(%d, %d, %d) = %d, %v, %v", at, old, v, was, did, e)
		}
		if !did {
			v = held
		}
		w.note(api.AccessSwap, at, v, did)
	case 4:
		if was, e := w.a.Add(at, v); was != held || e != api.OK {
			t.Fatalf("Add(%d, %d) = %d, %v", at, v, was, e)
		}
		w.note(api.AccessAdd, at, held+v, true)
	}
}

// P1.1 to P1.4 together, over a long run.
func TestModel(t *testing.T) {
	n := numbers(1)
	w := &twin{a: arena(t, 8, 1), cells: make([]uint64, 1)}
	for i := range 4000 {
		w.act(t, &n)
		if i%300 == 0 && len(w.cells) < 8 {
			if at, e := w.a.Alloc(1); at != len(w.cells) || e != api.OK {
				t.Fatal(at, e)
			}
			w.cells = append(w.cells, 0)
		}
		if i%97 == 0 {
			w.a = w.a.Copy()
		}
		if i%50 == 0 {
			last := w.log[max(0, len(w.log)-api.MaxLog):]
			expect(t, "model", w.a, state{8, uint64(len(w.log)), w.cells, last})
		}
	}
}

// P1.5: each cell's accesses follow one another, from 0 to what it holds, and
// a swap is performed exactly if its Old is the number that was given.
func TestChain(t *testing.T) {
	n := numbers(7)
	a := arena(t, 3, 3)
	var given []uint64
	for range api.MaxLog {
		at, v, old := int(n.below(3)), n.below(3), n.below(3)
		given = append(given, old)
		switch n.below(4) {
		case 0:
			a.Load(at)
		case 1:
			a.Store(at, v)
		case 2:
			a.Swap(at, old, v)
		case 3:
			a.Add(at, v-1)
		}
	}
	held := make([]uint64, 3)
	swaps := map[bool]int{}
	for number, x := range a.Log() {
		if x.Old != held[x.At] {
			t.Errorf("access %d: Old %d, not %d", number, x.Old, held[x.At])
		}
		held[x.At] = x.New
		if x.Op == api.AccessSwap {
			swaps[x.Did]++
			if x.Did != (x.Old == given[number]) {
				t.Errorf("access %d: %v, given %d", number, x, given[number])
			}
			if !x.Did && x.New != x.Old {
				t.Errorf("access %d: %v changes the cell", number, x)
			}
		}
	}
	if swaps[true] == 0 || swaps[false] == 0 {
		t.Errorf("swaps: %v", swaps)
	}
	for at, v := range cells(t, a) {
		if v != held[at] {
			t.Errorf("cell %d holds %d, not %d", at, v, held[at])
		}
	}
}
