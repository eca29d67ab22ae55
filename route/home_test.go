package route_test

import (
	"math/rand"
	"slices"
	"testing"

	"phasor/api"
)

// P20.6: by hand: the farthest places first, of equally far ones the greatest first, along the tree.
func TestHomes(t *testing.T) {
	diamond := sketch(t, 4, "0 2, 0 1, 3 2, 3 1") // 3 hangs at 1
	for _, w := range []struct {
		m           api.Coupling
		place, laid string
	}{
		{chain(1), "", ""},
		{chain(1), "0", ""},
		{chain(4), "", ""},
		{chain(4), "0 1 2 3", ""},
		{chain(4), "0 1", ""},
		{chain(2), "1 0", "swap 0 1"},
		{chain(4), "3", "swap 2 3; swap 1 2; swap 0 1"}, // 3 is the number of place 2, 2 of place 1, 1 of place 0
		{chain(4), "3 2 1 0", "swap 0 1; swap 1 2; swap 2 3; swap 0 1; swap 1 2; swap 0 1"},
		{chain(3), "2 1", "swap 0 1; swap 1 2; swap 0 1"},
		{chain(3), "1 2", "swap 0 1; swap 1 2"},
		// Up to the place that is above both, and down.
		{star(4, 0), "0 1 3 2", "swap 2 0; swap 0 3; swap 0 2"},
		{star(4, 0), "1 2 3 0", "swap 0 3; swap 0 2; swap 0 1"},
		{star(4, 2), "0 1 3 2", "swap 2 3"},
		{sketch(t, 7, "0 1, 0 2, 1 3, 1 4, 2 5, 2 6"), "0 1 2 4 3 5 6", "swap 3 1; swap 1 4; swap 1 3"},
		{sketch(t, 7, "0 1, 0 2, 1 3, 1 4, 2 5, 2 6"), "0 1 2 6 4 5 3", "swap 3 1; swap 1 0; swap 0 2; swap 2 6; swap 2 0; swap 0 1; swap 1 3"},
		// The parent is the least, and other ways are not gone.
		{diamond, "0 1 3 2", "swap 2 0; swap 0 1; swap 1 3; swap 1 0; swap 0 2"},
		{diamond, "0 3 2 1", "swap 1 3"},
		{wheel(4), "0 1 3 2", "swap 3 0; swap 0 1; swap 1 2; swap 1 0; swap 0 3"},
		{wheel(5), "0 1 3 2 4", "swap 2 1; swap 1 0; swap 0 4; swap 4 3; swap 4 0; swap 0 1; swap 1 2"},
	} {
		moved := ops(t, w.laid)
		place := row(t, w.place)
		for _, ahead := range [][]api.Op{nil, {do(api.GateX, 0)}, {measure(0, 1), when(1, 1, do(api.GateY, 0)), reset(0), barrier(first(w.m.N)...)}} {
			r := api.Routed{Circuit: of(w.m.N, 2, ahead...), Place: place, Swaps: 5}
			checkByHand(t, w.m, place, moved)
			wanted := api.Routed{Circuit: of(w.m.N, 2, behind(ahead, moved)...), Place: first(len(place)), Swaps: 5 + len(moved)}
			wantHome(t, r, w.m, wanted)
		}
	}
}

// checkByHand takes swaps that were written by hand to bring everything home, between neighbours.
func checkByHand(t *testing.T, m api.Coupling, place []int, moved []api.Op) {
	t.Helper()
	at := slices.Clone(place)
	for _, op := range moved {
		if !slowNear(m, op.Qubits[0], op.Qubits[1]) {
			t.Fatal("no neighbours:", op)
		}
		for q, p := range at {
			switch p {
			case op.Qubits[0]:
				at[q] = op.Qubits[1]
			case op.Qubits[1]:
				at[q] = op.Qubits[0]
			}
		}
	}
	if !slices.Equal(at, first(len(at))) {
		t.Fatal("not at home:", place, at)
	}
}

// some are unlike places at chance.
func some(chance *rand.Rand, n int) []int { return chance.Perm(n)[:chance.Intn(n+1)] }

// P20.6: any places on maps at chance, against the slow way; all come home.
func TestHomeAtChance(t *testing.T) {
	chance := rand.New(rand.NewSource(2008))
	swaps := 0
	for _, m := range maps(chance, 2000) {
		r := api.Routed{Circuit: wish{qubits: m.N, bits: 3, ops: chance.Intn(10), halves: 9, measures: 5}.drawn(chance), Place: some(chance, m.N), Swaps: chance.Intn(50)}
		wanted, ok := slowHome(r, m)
		if !ok {
			t.Fatal("not at home:", r, m)
		}
		checkByHand(t, m, r.Place, wanted.Circuit.Ops[len(r.Circuit.Ops):])
		wantHome(t, r, m, wanted)
		swaps += wanted.Swaps - r.Swaps
	}
	if swaps < 10000 {
		t.Error("too few swaps:", swaps)
	}
}

// P20.6: all ways in which qubits may be at places of small maps.
func TestHomeOfAll(t *testing.T) {
	for _, m := range []api.Coupling{chain(4), wheel(4), star(4, 0), star(4, 3), thick(4), sketch(t, 4, "0 2, 0 1, 3 2, 3 1"), sketch(t, 4, "2 0, 2 3, 3 1")} {
		var further func(place []int)
		further = func(place []int) {
			r := api.Routed{Circuit: of(4, 0), Place: slices.Clone(place)}
			wanted, ok := slowHome(r, m)
			if !ok {
				t.Fatal("not at home:", r, m)
			}
			wantHome(t, r, m, wanted)
			for p := range 4 {
				if !slices.Contains(place, p) {
					further(append(slices.Clone(place), p))
				}
			}
		}
		further(nil)
	}
}

// P20.6: what Route answers is brought home; what is at home stays as it is.
func TestHomeOfRoute(t *testing.T) {
	chance := rand.New(rand.NewSource(2009))
	for _, m := range maps(chance, 1000) {
		r := mustRoute(t, drawnFor(chance, m.N), m)
		wanted, _ := slowHome(r, m)
		wantHome(t, r, m, wanted)
		wantHome(t, wanted, m, wanted)
		wantFits(t, wanted.Circuit, m, true)
	}
}

// P20.6: what it does not take: ErrRoute, of a circuit that may not be, too.
func TestHomeRefuses(t *testing.T) {
	for _, c := range wrongCircuits() {
		for _, m := range []api.Coupling{chain(1), chain(3), thick(64)} {
			refusesHome(t, "a wrong circuit", api.Routed{Circuit: c, Place: []int{0}}, m, api.ErrRoute)
			refusesHome(t, "a wrong circuit", api.Routed{Circuit: c}, m, api.ErrRoute)
		}
	}
	for _, n := range []int{0, 1, 2, 4, 5, 64} {
		refusesHome(t, "another number of qubits", api.Routed{Circuit: of(n, 0)}, chain(3), api.ErrRoute)
		refusesHome(t, "another number of qubits", api.Routed{Circuit: of(n, 0), Place: []int{0}}, chain(3), api.ErrRoute)
	}
	for _, place := range [][]int{{3}, {-1}, {64}, {great}, {least}, {0, 0}, {2, 1, 2}, {0, 1, 3}, {0, 1, 2, 3}, {0, 1, 2, 0}, {0, 1, 2, 2}, {1, -1}, {0, 1, -1, 2}, make([]int, 1<<20)} {
		refusesHome(t, "wrong places", api.Routed{Circuit: of(3, 0), Place: place}, chain(3), api.ErrRoute)
		refusesHome(t, "wrong places", api.Routed{Circuit: of(3, 0, do(api.GateX, 0)), Place: place, Swaps: 7}, thick(3), api.ErrRoute)
	}
	for _, place := range [][]int{first(65), append(first(64), 63), {64}, {127}} {
		refusesHome(t, "wrong places", api.Routed{Circuit: of(64, 0), Place: place}, chain(64), api.ErrRoute)
	}
}

// P20.6: just as many operations as may be, and one more; Swaps may be any number.
func TestHomeOfTheMost(t *testing.T) {
	turned := first(64)
	slices.Reverse(turned)
	for _, w := range []struct {
		m     api.Coupling
		place []int
		many  int
	}{
		{chain(2), []int{1, 0}, 1},
		{chain(4), []int{2, 0, 1, 3}, 2},
		{chain(64), turned, 2016},
		{chain(64), first(64), 0},
		{thick(64), nil, 0},
	} {
		c := of(w.m.N, 64, times(4096-w.many, do(api.GateX, 0))...)
		for _, swaps := range []int{0, 3, 4096, -1, great - 4096, least} {
			r := api.Routed{Circuit: c, Place: w.place, Swaps: swaps}
			wanted, _ := slowHome(r, w.m)
			if len(wanted.Circuit.Ops) != 4096 || wanted.Swaps != swaps+w.many {
				t.Fatal("not the most:", len(wanted.Circuit.Ops), wanted.Swaps)
			}
			wantHome(t, r, w.m, wanted)
		}
		if w.many > 0 {
			c.Ops = append(c.Ops, do(api.GateX, 0))
			refusesHome(t, "too many operations", api.Routed{Circuit: c, Place: w.place}, w.m, api.ErrRoute)
			refusesHome(t, "too many operations", api.Routed{Circuit: of(w.m.N, 0, times(4096, do(api.GateX, 0))...), Place: w.place}, w.m, api.ErrRoute)
		}
	}
}
