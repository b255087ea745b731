package spin_test

import (
	"testing"

	"betrothal/api"
	"betrothal/cell"
	"betrothal/spin"
)

// nobody holds a lock that is free.
const nobody = -1

// party is some threads that use locks, each of which frees only what it has acquired.
type party struct {
	a       *cell.Arena
	holders []int // by the index of a lock
}

func newParty(t *testing.T, locks int) *party {
	t.Helper()
	p := &party{a: arena(t, locks)}
	for want := range locks {
		if at, e := spin.New(p.a); at != want || e != api.OK {
			t.Fatalf("New = %d, %v", at, e)
		}
		p.holders = append(p.holders, nobody)
	}
	return p
}

// acquired notes that a thread acquired a lock, which must have been free.
func (p *party) acquired(t *testing.T, thread, at int, got bool) {
	t.Helper()
	if got != (p.holders[at] == nobody) {
		t.Fatalf("thread %d tries lock %d of %d: %v", thread, at, p.holders[at], got)
	}
	if got {
		p.holders[at] = thread
	}
}

// step lets a thread free a lock if it holds it, and otherwise try it in one of the two ways.
func (p *party) step(t *testing.T, thread, at, way int) {
	t.Helper()
	if p.holders[at] == thread && way != 2 {
		wantFree(t, p.a, at, api.OK)
		p.holders[at] = nobody
		return
	}
	if way == 1 {
		for _, got := range spin.Tries(p.a, at, 2) {
			p.acquired(t, thread, at, got)
		}
		return
	}
	got, e := spin.Try(p.a, at)
	if e != api.OK {
		t.Fatalf("Try(%d): %v", at, e)
	}
	p.acquired(t, thread, at, got)
}

// look compares what Held and States report with who holds the locks.
func (p *party) look(t *testing.T) {
	t.Helper()
	var places []int
	for at, holder := range p.holders {
		wantHeld(t, p.a, at, holder != nobody, api.OK)
		places = append(places, at)
	}
	l, e := spin.States(p.a, places...)
	if len(l) != len(places) || e != api.OK {
		t.Fatalf("States(%v) = %v, %v", places, l, e)
	}
	for at, holder := range p.holders {
		if l[at] != (holder != nobody) {
			t.Errorf("lock %d of %d: %v", at, holder, l[at])
		}
	}
}

// P3.4: many orders of calls by threads that free only what they acquired.
func TestParty(t *testing.T) {
	n := numbers(3)
	for _, c := range []struct{ threads, locks int }{{1, 1}, {2, 1}, {3, 1}, {3, 2}, {5, 4}} {
		p := newParty(t, c.locks)
		for range 2000 {
			p.step(t, n.below(c.threads), n.below(c.locks), n.below(3))
			p.look(t)
		}
	}
}

// P3.4: every order of eight calls by two threads on one lock.
func TestOrders(t *testing.T) {
	const calls = 8
	for order := range 1 << calls {
		p := newParty(t, 1)
		for i := range calls {
			p.step(t, order>>i&1, 0, 0)
		}
		p.look(t)
	}
}
