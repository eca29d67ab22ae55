package apply_test

import (
	"math/rand"
	"testing"

	"phasor/api"
	"phasor/apply"
)

// P10.8: each place and the state behind it, up to just ahead of the first that is refused; and once more.
func TestWalk(t *testing.T) {
	chance := rand.New(rand.NewSource(1007))
	for n := range 13 {
		for range 1 + 24>>n {
			for _, s := range states(chance, n) {
				ops, come := row(chance, s, n, chance.Intn(10))
				good := len(ops)
				if chance.Intn(2) == 0 {
					ops = append(ops, refused(n)[chance.Intn(19)], op(api.GateX, 0), barriers()[0])
				}
				walk := apply.Walk(s, ops)
				for range 2 {
					next := 0
					for place, now := range walk {
						if place != next || place >= good {
							t.Fatalf("place %d, not %d of %d", place, next, good)
						}
						want(t, "Walk", now, api.OK, come[place]...)
						next++
					}
					if next != good {
						t.Errorf("%d places, not %d", next, good)
					}
				}
			}
		}
	}
}

// P10.8: of what is no state nothing, whatever the operations.
func TestWalkOfNoState(t *testing.T) {
	for _, s := range wrongs() {
		for _, ops := range [][]api.Op{nil, {op(api.GateX, 0)}, barriers()} {
			walk := apply.Walk(s, ops)
			if walk == nil {
				t.Fatal("no iterator")
			}
			for range walk {
				t.Errorf("a state, of %d amplitudes", len(s))
			}
		}
	}
	for range apply.Walk([]complex128{1, 0}, nil) {
		t.Error("a state behind no operation")
	}
}

// P10.8: what is handed in may be changed behind the call, and what is given by whoever ranges.
func TestWalkKeepsItsOwn(t *testing.T) {
	s := []complex128{1, 0, 0, 0}
	ops := []api.Op{op(api.GateX, 0), op(api.GateCX, 0, 1), barriers()[0], op(api.GateX, 0)}
	walk := apply.Walk(s, ops)
	s[0], s[1] = 7, 7
	ops[0].Gate, ops[1].Qubits[0], ops[2].Kind, ops[3].Qubits[0] = api.GateZ, 1, api.OpReset, 1
	wanted := [][]complex128{{0, 1, 0, 0}, {0, 0, 0, 1}, {0, 0, 0, 1}, {0, 0, 1, 0}}
	var kept [][]complex128
	for range 2 {
		for place, now := range walk {
			want(t, "behind changes", now, api.OK, wanted[place]...)
			for k := range now {
				now[k] = 9
			}
			kept = append(kept, now)
		}
	}
	if len(kept) != 8 {
		t.Fatal(len(kept), "states")
	}
	for i, l := range kept {
		l[0] = complex(float64(i), 0)
	}
	for i, l := range kept {
		want(t, "memory of its own", l, api.OK, complex(float64(i), 0), 9, 9, 9)
	}
}

// P10.8: left early, gone through again, and one ranging inside another.
func TestWalkLeftEarly(t *testing.T) {
	chance := rand.New(rand.NewSource(1008))
	s := tame(chance, 16)
	ops, come := row(chance, s, 4, 8)
	walk := apply.Walk(s, ops)
	for stop := range 8 {
		seen := 0
		for place, now := range walk {
			want(t, "once more", now, api.OK, come[place]...)
			if seen++; place == stop {
				break
			}
		}
		if seen != stop+1 {
			t.Errorf("left at %d, seen %d", stop, seen)
		}
	}
	for outer, now := range walk {
		for inner, other := range walk {
			want(t, "inside", other, api.OK, come[inner]...)
			if inner == outer {
				break
			}
		}
		want(t, "outside", now, api.OK, come[outer]...)
	}
}
