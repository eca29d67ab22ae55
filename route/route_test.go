package route_test

import (
	"math/rand"
	"testing"

	"phasor/api"
	"phasor/gate"
)

// P20.4: by hand.
func TestFits(t *testing.T) {
	line := chain(4)
	for _, w := range []struct {
		qubits int
		ops    string
		fits   bool
	}{
		{0, "", true},
		{1, "", true},
		{4, "", true},
		{5, "", false},
		{64, "", false},
		{4, "x 0; s 3", true},
		{5, "x 0", false},
		{4, "cx 0 1; cx 1 0; swap 2 3; cz 3 2; hh 1 2", true},
		{2, "iswap 0 1", true},
		{3, "cx 0 2", false},
		{4, "cx 0 1; cx 3 1", false},
		{4, "cx 0 3", false},
		{4, "ccx 0 1 2", false},
		{4, "cswap 2 1 0", false},
		{4, "ccz 1 2 3; cx 0 1", false},
		{4, "if 0 1 cx 0 1", true},
		{4, "if 0 0 cx 0 2", false},
		{4, "if 0 0 ccx 0 1 2", false},
		// Operations that are no gates may be anywhere.
		{4, "barrier 0 3; barrier 0 1 2 3; barrier 0 2 1; measure 0 -> 0; reset 3", true},
		{4, "barrier 0 2; cx 0 1; barrier 3 1; cx 0 2", false},
	} {
		wantFits(t, of(w.qubits, 1, ops(t, w.ops)...), line, w.fits)
	}
	wantFits(t, of(4, 0, ops(t, "cx 3 0")...), wheel(4), true)
	wantFits(t, of(4, 0, ops(t, "cx 0 3")...), wheel(4), true)
	wantFits(t, of(4, 0, ops(t, "cx 0 2")...), wheel(4), false)
	wantFits(t, of(64, 64, do(api.GateCX, 0, 63)), wheel(64), true)
	wantFits(t, of(64, 64, do(api.GateCX, 0, 63)), chain(64), false)
	wantFits(t, of(1, 0, do(api.GateX, 0)), chain(1), true)
	wantFits(t, of(2, 0, do(api.GateX, 0)), chain(1), false)
}

// P20.4: each kind of gate, on neighbours and on others.
func TestFitsOfKinds(t *testing.T) {
	for _, k := range gate.Kinds() {
		near, apart := []int{2, 1, 0}[:gate.Arity(k)], []int{0, 2, 1}[:gate.Arity(k)]
		wantFits(t, of(3, 0, do(k, near...)), chain(3), gate.Arity(k) < 3)
		wantFits(t, of(3, 0, do(k, apart...)), chain(3), gate.Arity(k) == 1)
		wantFits(t, of(3, 0, do(k, apart...)), thick(3), gate.Arity(k) < 3)
	}
}

// P20.4: circuits at chance, gates of three among them, against the slow way.
func TestFitsAtChance(t *testing.T) {
	chance := rand.New(rand.NewSource(2006))
	count := map[bool]int{}
	for _, m := range maps(chance, 4000) {
		w := wish{qubits: min(1+chance.Intn(m.N+1), 64), bits: 2, ops: chance.Intn(6), halves: 9, measures: 3}
		c := w.drawn(chance)
		if c.Qubits > 2 && chance.Intn(10) == 0 {
			c.Ops = append(c.Ops, do(api.GateCCX, chance.Perm(c.Qubits)[:3]...))
		}
		wanted := slowFits(c, m)
		wantFits(t, c, m, wanted)
		count[wanted]++
	}
	if count[true] < 300 || count[false] < 300 {
		t.Error("too few of one sort:", count)
	}
}

// P20.4, P20.5: ErrCircuit, of right maps.
func TestWrongCircuits(t *testing.T) {
	for _, c := range wrongCircuits() {
		for _, m := range []api.Coupling{chain(1), chain(3), thick(64)} {
			if _, e := fitsOf(t, c, m); e != api.ErrCircuit {
				t.Errorf("Fits: error %d", e)
			}
			refusesRoute(t, "a wrong circuit", c, m, api.ErrCircuit)
		}
	}
}

// P20.5: by hand: the first qubit goes, the second stays; what is met on the way changes places; later operations are where their qubits are.
func TestRoutes(t *testing.T) {
	for _, w := range []struct {
		m          api.Coupling
		qubits     int
		ops, laid  string
		place      string
		swapsTaken int
	}{
		{chain(1), 0, "", "", "", 0},
		{chain(1), 1, "x 0", "x 0", "0", 0},
		{chain(4), 0, "", "", "", 0},
		{chain(4), 4, "cx 0 1; cx 1 0; cz 3 2", "cx 0 1; cx 1 0; cz 3 2", "0 1 2 3", 0},
		{chain(4), 4, "cx 3 0", "swap 3 2; swap 2 1; cx 1 0", "0 2 3 1", 2},
		{chain(4), 4, "cx 0 2", "swap 0 1; cx 1 2", "1 0 2 3", 1},
		{chain(4), 4, "cx 2 0", "swap 2 1; cx 1 0", "0 2 1 3", 1},
		// Once they are together they stay so; others come from where they were taken to.
		{chain(4), 4, "cx 0 3; cx 0 3; cx 3 0; x 0; x 1; y 2; z 3", "swap 0 1; swap 1 2; cx 2 3; cx 2 3; cx 3 2; x 2; x 0; y 1; z 3", "2 0 1 3", 2},
		{chain(4), 4, "cx 0 2; cx 1 3", "swap 0 1; cx 1 2; swap 0 1; swap 1 2; cx 2 3", "0 2 1 3", 3},
		// A swap that stands in the circuit is a gate as others are.
		{chain(3), 3, "swap 0 2; x 0", "swap 0 1; swap 1 2; x 1", "1 0 2", 1},
		{chain(3), 3, "iswap 2 0; hh 2 1", "swap 2 1; iswap 1 0; hh 1 2", "0 2 1", 1},
		// What is no gate needs nobody together; a gate of one qubit neither.
		{chain(3), 3, "cx 0 2; barrier 0 2 1; measure 0 -> 1; reset 1; x 1", "swap 0 1; cx 1 2; barrier 1 2 0; measure 1 -> 1; reset 0; x 0", "1 0 2", 1},
		{chain(4), 4, "barrier 0 3; barrier 3 0", "barrier 0 3; barrier 3 0", "0 1 2 3", 0},
		// The condition is the gate's alone.
		{chain(4), 4, "if 1 1 cx 0 3; if 0 0 x 1", "swap 0 1; swap 1 2; if 1 1 cx 2 3; if 0 0 x 0", "2 0 1 3", 2},
		// Places without a qubit are gone through as others are.
		{chain(5), 2, "cx 0 1", "cx 0 1", "0 1", 0},
		{sketch(t, 4, "0 2, 2 3, 3 1"), 2, "cx 0 1; x 1; x 0", "swap 0 2; swap 2 3; cx 3 1; x 1; x 3", "3 1", 2},
		{sketch(t, 4, "0 2, 2 3, 3 1"), 2, "cx 1 0", "swap 1 3; swap 3 2; cx 2 0", "0 2", 2},
		// Of several ways the one that Path tells.
		{wheel(5), 5, "cx 0 3; cx 0 2", "swap 0 4; cx 4 3; swap 4 3; cx 3 2", "3 1 2 4 0", 2},
		{sketch(t, 4, "0 2, 0 1, 3 2, 3 1"), 4, "cx 0 3; cz 3 2", "swap 0 1; cx 1 3; cz 3 2", "1 0 2 3", 1},
		{sketch(t, 4, "0 2, 0 1, 3 2, 3 1"), 4, "cx 2 1", "swap 2 0; cx 0 1", "2 1 0 3", 1},
		{star(5, 4), 5, "cx 0 1; cx 2 3", "swap 0 4; cx 4 1; swap 2 4; cx 4 3", "2 1 4 3 0", 2},
		{thick(5), 5, "cx 0 4; cx 1 3; cx 4 2", "cx 0 4; cx 1 3; cx 4 2", "0 1 2 3 4", 0},
	} {
		wanted := api.Routed{Circuit: of(w.m.N, 2, ops(t, w.laid)...), Place: row(t, w.place), Swaps: w.swapsTaken}
		wantRoute(t, of(w.qubits, 2, ops(t, w.ops)...), w.m, wanted)
	}
}

// P20.5: circuits and maps at chance, against the slow way.
func TestRouteAtChance(t *testing.T) {
	chance := rand.New(rand.NewSource(2007))
	swaps := 0
	for _, m := range maps(chance, 3000) {
		c := drawnFor(chance, m.N)
		wanted, _ := slowRoute(c, m)
		wantRoute(t, c, m, wanted)
		swaps += wanted.Swaps
	}
	if swaps < 10000 {
		t.Error("too few swaps:", swaps)
	}
}

// P20.5: too many qubits, gates of three, with and without a condition, wherever they stand.
func TestRouteRefuses(t *testing.T) {
	refusesRoute(t, "two qubits on one place", of(2, 0), chain(1), api.ErrRoute)
	refusesRoute(t, "64 qubits on 63 places", of(64, 64), chain(63), api.ErrRoute)
	refusesRoute(t, "a gate on a qubit too many", of(5, 0, do(api.GateX, 4)), chain(4), api.ErrRoute)
	for _, k := range []api.GateKind{api.GateCCX, api.GateCCZ, api.GateCSw} {
		refusesRoute(t, "three", of(3, 0, do(k, 0, 1, 2)), thick(3), api.ErrRoute)
		refusesRoute(t, "three, and too many qubits", of(4, 0, do(k, 0, 1, 2)), thick(3), api.ErrRoute)
		refusesRoute(t, "three, last", of(4, 0, do(api.GateCX, 0, 3), barrier(0, 1, 2), do(k, 3, 1, 2)), chain(4), api.ErrRoute)
		refusesRoute(t, "three, with a condition", of(3, 1, when(0, 1, do(k, 2, 1, 0))), chain(3), api.ErrRoute)
	}
	wantRoute(t, of(3, 0, barrier(0, 1, 2)), chain(3), api.Routed{Circuit: of(3, 0, barrier(0, 1, 2)), Place: first(3)})
}

// P20.5: just as many operations as may be, and one more.
func TestRouteOfTheMost(t *testing.T) {
	wantRoute(t, of(64, 64, times(4096, do(api.GateX, 63))...), chain(64), api.Routed{Circuit: of(64, 64, times(4096, do(api.GateX, 63))...), Place: first(64)})
	for _, w := range []struct {
		m    api.Coupling
		far  api.Op
		many int
	}{
		{chain(3), do(api.GateCX, 0, 2), 1},
		{chain(64), do(api.GateCX, 0, 63), 62},
		{wheel(64), do(api.GateCZ, 0, 32), 31},
	} {
		for _, rest := range []int{4095 - w.many, 4096 - w.many, 4095} {
			for _, c := range []api.Circuit{
				of(w.m.N, 0, behind(times(rest, do(api.GateX, 2)), []api.Op{w.far})...),
				of(w.m.N, 0, behind([]api.Op{w.far}, times(rest, do(api.GateX, 2)))...),
			} {
				if rest+1+w.many > 4096 {
					refusesRoute(t, "too many operations", c, w.m, api.ErrRoute)
					continue
				}
				wanted, _ := slowRoute(c, w.m)
				if len(wanted.Circuit.Ops) != 4096 || wanted.Swaps != w.many {
					t.Fatal("not the most:", len(wanted.Circuit.Ops), wanted.Swaps)
				}
				wantRoute(t, c, w.m, wanted)
			}
		}
	}
	// Each gate of these takes the two apart that the next one needs: there would be more than 200000 operations.
	var apart []api.Op
	for range 2048 {
		apart = append(apart, do(api.GateCX, 0, 63), do(api.GateCX, 0, 1))
	}
	refusesRoute(t, "far too many operations", of(64, 0, apart...), chain(64), api.ErrRoute)
}
