package layers_test

import (
	"math/rand"
	"slices"
	"testing"

	"phasor/api"
)

// P19.1: by hand: which operations wait for which.
func TestEarlyAndLate(t *testing.T) {
	for _, w := range []struct {
		ops, early, late string
		depth            int
	}{
		{"", "", "", 0},
		{"x 0", "1", "1", 1},
		{"x 0; x 1", "1 1", "1 1", 1},
		{"x 0; x 0; x 1", "1 2 1", "1 2 2", 2},
		{"x 1; x 0; x 0", "1 1 2", "2 1 2", 2},
		{"x 0; cx 0 1; cx 1 2; x 3", "1 2 3 1", "1 2 3 3", 3},
		{"ccx 0 1 2; cswap 3 4 2; x 0", "1 2 2", "1 2 2", 2},
		// A barrier takes no moment of its own, and is waited for.
		{"barrier 0", "0", "0", 0},
		{"barrier 0; barrier 0 1; barrier 1", "0 0 0", "0 0 0", 0},
		{"barrier 0; x 0", "0 1", "0 1", 1},
		{"x 0; barrier 0", "1 1", "1 1", 1},
		{"x 0; barrier 0; x 0", "1 1 2", "1 1 2", 2},
		{"x 0; barrier 0 1; x 1", "1 1 2", "1 1 2", 2},
		{"x 0; barrier 1; x 1", "1 0 1", "1 0 1", 1},
		{"x 0; x 0; barrier 1; x 1", "1 2 0 1", "1 2 1 2", 2},
		{"x 0; x 0; x 1; barrier 0 1; barrier 1 2; x 2", "1 2 1 2 2 3", "1 2 2 2 2 3", 3},
		{"x 0; x 0; barrier 1; barrier 1; x 1", "1 2 0 0 1", "1 2 1 1 2", 2},
		{"x 0; x 0; x 1; barrier 1; barrier 1", "1 2 1 1 1", "1 2 2 2 2", 2},
		// Of the wires of one the one that comes the soonest counts, whichever is the first.
		{"barrier 0 1; x 0; x 1; x 1; barrier 0", "0 1 1 2 1", "0 2 1 2 2", 2},
		{"barrier 1 0; x 0; x 1; x 1; barrier 0", "0 1 1 2 1", "0 2 1 2 2", 2},
		{"cx 0 1; barrier 0; x 1; x 1; x 1", "1 1 2 3 4", "1 4 2 3 4", 4},
		{"cx 1 0; barrier 0; x 1; x 1; x 1", "1 1 2 3 4", "1 4 2 3 4", 4},
		{"cx 0 1; x 0; barrier 1; x 1; x 1", "1 2 1 2 3", "1 3 1 2 3", 3},
		// Bits are wires, too: of what sets them, and of what asks them.
		{"measure 0 -> 0; measure 1 -> 0", "1 2", "1 2", 2},
		{"measure 0 -> 0; measure 1 -> 1", "1 1", "1 1", 1},
		{"measure 0 -> 0; if 0 1 x 1", "1 2", "1 2", 2},
		{"measure 0 -> 0; if 1 0 x 1", "1 1", "1 1", 1},
		{"if 0 1 x 1; measure 0 -> 0", "1 2", "1 2", 2},
		{"if 0 1 x 1; if 0 0 x 2", "1 2", "1 2", 2},
		{"if 0 1 x 1; if 1 1 x 2", "1 1", "1 1", 1},
		{"if 0 1 x 1; if 1 1 x 1", "1 2", "1 2", 2},
		{"reset 0; if 0 1 x 1; reset 1", "1 1 2", "2 1 2", 2},
		{"reset 0; reset 1; measure 0 -> 2", "1 1 2", "1 2 2", 2},
		// A qubit's number and a bit's are two things; bit 0 is no wire of what has no condition.
		{"measure 0 -> 1; x 1", "1 1", "1 1", 1},
		{"if 1 0 x 0; x 1", "1 1", "1 1", 1},
		{"measure 0 -> 0; x 1; reset 2; barrier 3", "1 1 1 0", "1 1 1 1", 1},
	} {
		c := text(t, w.ops)
		early.wantRow(t, c, row(t, w.early))
		late.wantRow(t, c, row(t, w.late))
		depth.want(t, c, nil, told{number: w.depth})
	}
}

// P19.2: by hand.
func TestMomentsAndSorted(t *testing.T) {
	for _, w := range []struct{ ops, moments, sorted string }{
		{"", "", ""},
		{"x 0", "0", "x 0"},
		{"barrier 0; barrier 1", "", "barrier 0; barrier 1"},
		{"x 0; x 0; x 1", "0 2; 1", "x 0; x 1; x 0"},
		{"x 2; x 1; x 0", "0 1 2", "x 2; x 1; x 0"},
		{"cx 0 1; cx 1 2; x 3; s 0; s 3", "0 2; 1 3 4", "cx 0 1; x 3; cx 1 2; s 0; s 3"},
		// Barriers of one moment stand behind what is done then, as they stood.
		{"x 0; barrier 1", "0", "barrier 1; x 0"},
		{"x 0; barrier 0; x 1", "0 2", "x 0; x 1; barrier 0"},
		{"x 0; barrier 0; x 1; barrier 1; y 2", "0 2 4", "x 0; x 1; y 2; barrier 0; barrier 1"},
		{"x 1; barrier 1 2; x 0; barrier 0; barrier 2; x 3; x 2", "0 2 5; 6", "x 1; x 0; x 3; barrier 1 2; barrier 0; barrier 2; x 2"},
		{"x 0; x 0; barrier 1; y 1; barrier 0 1; z 1", "0 3; 1; 5", "barrier 1; x 0; y 1; x 0; barrier 0 1; z 1"},
		{"measure 1 -> 0; if 0 1 x 0; measure 0 -> 1; reset 2", "0 3; 1; 2", "measure 1 -> 0; reset 2; if 0 1 x 0; measure 0 -> 1"},
	} {
		c := text(t, w.ops)
		moments.want(t, c, nil, told{rows: rows(t, w.moments)})
		sorted.wantCircuit(t, c, text(t, w.sorted))
	}
}

// P19.1, P19.2: the most that there can be of all: qubits, bits, operations.
func TestMomentsOfTheMost(t *testing.T) {
	one := of(64, 64, times(4096, do(api.GateX, 63))...)
	rising := make([]int, 4096)
	for at := range rising {
		rising[at] = at + 1
	}
	early.wantRow(t, one, rising)
	late.wantRow(t, one, rising)
	depth.want(t, one, nil, told{number: 4096})
	sorted.wantCircuit(t, one, one)

	walls := of(64, 64, times(4096, barrier(upTo(64)...))...)
	early.wantRow(t, walls, make([]int, 4096))
	late.wantRow(t, walls, make([]int, 4096))
	depth.want(t, walls, nil, told{})
	moments.want(t, walls, nil, told{})
	sorted.wantCircuit(t, walls, walls)

	wide := of(64, 64)
	for q := range 64 {
		wide.Ops = append(wide.Ops, measure(q, 63-q))
	}
	for q := range 64 {
		wide.Ops = append(wide.Ops, when(63-q, 1, do(api.GateX, q)))
	}
	early.wantRow(t, wide, slices.Concat(slices.Repeat([]int{1}, 64), slices.Repeat([]int{2}, 64)))
	late.wantRow(t, wide, slices.Concat(slices.Repeat([]int{1}, 64), slices.Repeat([]int{2}, 64)))
	moments.want(t, wide, nil, told{rows: [][]int{upTo(128)[:64], upTo(128)[64:]}})

	// Each qubit and each bit is a wire of its own.
	for k := range 64 {
		early.wantRow(t, of(64, 64, measure(k, 63), do(api.GateX, k), measure((k+1)%64, 63)), []int{1, 2, 2})
		early.wantRow(t, of(64, 64, measure(0, k), when(k, 0, do(api.GateX, 1)), when((k+1)%64, 0, do(api.GateX, 2))), []int{1, 2, 1})
	}
	none := of(0, 0)
	for _, f := range []call{early, late, depth, moments, sorted} {
		if !f.answer(t, none).nothing() {
			t.Error(f.name, "of nothing")
		}
	}
}

// P19.1, P19.2: circuits at chance, against the slow way.
func TestMomentsAtChance(t *testing.T) {
	chance := rand.New(rand.NewSource(1901))
	for _, c := range samples(chance, 4000) {
		wanted := slowTold(c, nil)
		for _, f := range []call{early, late, depth, moments, sorted} {
			f.want(t, c, nil, wanted[f.name])
		}
	}
}

// ErrCircuit, by all calls, whatever the qubits are.
func TestWrongCircuits(t *testing.T) {
	for _, c := range wrongCircuits() {
		for _, f := range calls() {
			for _, qubits := range [][]int{nil, {0}, {-1}, {64}, {0, 0}, {great}} {
				f.refuses(t, "a wrong circuit", c, qubits, api.ErrCircuit)
			}
		}
	}
}

// R3: lists are the caller's own; nil and empty lists are the same.
func TestOwnLists(t *testing.T) {
	chance := rand.New(rand.NewSource(1902))
	for _, c := range samples(chance, 300) {
		for _, f := range calls() {
			f.wantOwn(t, c, some(chance, c))
		}
	}
	shared := []int{1, 0, 2}
	for _, f := range calls() {
		c := of(3, 0, do(api.GateCCX, shared...), do(api.GateCCZ, shared...), barrier(shared[:2]...), do(api.GateX, shared[1:2]...))
		f.wantOwn(t, c, shared[1:])
		for _, empty := range []api.Circuit{{Qubits: 2}, {Qubits: 2, Ops: []api.Op{}}} {
			if a := f.answer(t, empty); len(a.circuit.Ops) != 0 || a.number != 0 || len(slices.Concat(a.rows...)) != 0 {
				t.Error(f.name, a)
			}
		}
	}
}
