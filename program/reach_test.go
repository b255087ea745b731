package program_test

import (
	"iter"
	"slices"
	"testing"

	"betrothal/api"
	"betrothal/program"
)

// P7.3: the functions that function 0 reaches, in increasing order, each with the smallest number of steps.
func TestReach(t *testing.T) {
	for _, c := range []struct {
		name string
		want []told
	}{
		{"chapter", []told{{0, 0}, {1, 1}}},
		{"not reached", []told{{0, 0}, {1, 1}}},
		{"unit", []told{{0, 0}}},
		{"itself", []told{{0, 0}}},
		{"every Op", []told{{0, 0}, {1, 1}, {2, 1}, {3, 2}}},
		{"ring of two", []told{{0, 0}, {1, 1}}},
		{"most arguments", []told{{0, 0}, {1, 1}}},
		{"shorter way", []told{{0, 0}, {1, 1}, {2, 2}, {3, 1}, {4, 2}}},
		{"shorter way on", []told{{0, 0}, {1, 1}, {2, 2}, {3, 2}, {4, 1}, {5, 3}}},
		{"only unreached", []told{{0, 0}}},
		{"twice", []told{{0, 0}, {2, 1}}},
		{"numbers of 63", []told{{0, 0}}},
		{"many parameters", []told{{0, 0}}},
	} {
		if got := collect(program.Reach(sound()[c.name])); !slices.Equal(got, c.want) {
			t.Errorf("%s: %v", c.name, got)
		}
	}
	var want []told
	for i := range 64 {
		want = append(want, told{i, i})
	}
	if got := collect(program.Reach(ring(64))); !slices.Equal(got, want) {
		t.Error(got)
	}
	backwards := made(calls(0, 63))
	for i := range 63 {
		backwards.Funs = append(backwards.Funs, calls(0, int64(i)))
	}
	for i := range want {
		want[i].steps = (64 - i) % 64
	}
	if got := collect(program.Reach(backwards)); !slices.Equal(got, want) {
		t.Error(got)
	}
}

// P7.3: each Op that names a function reaches it.
func TestReachOps(t *testing.T) {
	for _, op := range naming() {
		params := 2
		if op == api.OpNack {
			params = 3
		}
		p := made(passes(op, 2, 2), takes(0), takes(params))
		if got := collect(program.Reach(p)); !slices.Equal(got, []told{{0, 0}, {2, 1}}) {
			t.Errorf("Op %d: %v", op, got)
		}
	}
}

// P7.3: an invalid program reaches nothing, though the wrong place may not be reached.
func TestReachInvalid(t *testing.T) {
	for name, c := range faults() {
		reached := program.Reach(c.p)
		if reached == nil {
			t.Fatalf("%s: no iterator", name)
		}
		if got := collect(reached); got != nil {
			t.Errorf("%s: %v", name, got)
		}
	}
}

// stopped collects what an iterator tells up to a number of functions.
func stopped(s iter.Seq2[int, int], most int) []told {
	var l []told
	for number, steps := range s {
		l = append(l, told{number, steps})
		if len(l) == most {
			break
		}
	}
	return l
}

// P7.3: the loop may stop early, and the iterator may be used again, also within itself.
func TestReachAgain(t *testing.T) {
	for name, p := range sound() {
		reached := program.Reach(p)
		want := collect(reached)
		for most := 1; most <= len(want); most++ {
			if got := stopped(reached, most); !slices.Equal(got, want[:most]) {
				t.Errorf("%s, stopped after %d: %v", name, most, got)
			}
		}
		runs := 0
		for range reached {
			runs++
			if !slices.Equal(collect(reached), want) {
				t.Errorf("%s, within itself", name)
			}
		}
		if runs != len(want) {
			t.Errorf("%s: %d runs", name, runs)
		}
	}
}

// P7.3: Reach uses the program as it is when it is called.
func TestReachKept(t *testing.T) {
	for name, p := range sound() {
		reached := program.Reach(p)
		want := collect(program.Reach(p))
		spoil(p.Funs)
		if got := collect(reached); !slices.Equal(got, want) {
			t.Errorf("%s: %v", name, got)
		}
	}
	p := made(calls(0, 1), calls(0, 2), takes(0), takes(0))
	reached := program.Reach(p)
	p.Funs[1].Nodes[1].N = 3
	if got := collect(reached); !slices.Equal(got, []told{{0, 0}, {1, 1}, {2, 2}}) {
		t.Error(got)
	}
	p = made(calls(0, 1), takes(1))
	reached = program.Reach(p)
	p.Funs[1].Params = 0
	if got := collect(reached); got != nil {
		t.Error(got)
	}
}
