package layers_test

import (
	"math/rand"
	"slices"
	"testing"

	"phasor/api"
)

// P19.3: by hand: what matters to qubits, and what they matter to.
func TestPastAndFuture(t *testing.T) {
	for _, w := range []struct{ ops, qubits, past, future string }{
		{"", "", "", ""},
		{"", "0 4", "", ""},
		{"x 0; x 1", "", "", ""},
		{"x 0; x 1", "0", "0", "0"},
		{"x 0; x 1", "1", "1", "1"},
		{"x 0; x 1; x 2", "2 0", "0 2", "0 2"},
		{"x 0; x 1; x 2", "2 1 0", "0 1 2", "0 1 2"},
		{"x 0; x 1; x 2", "3", "", ""},
		// Wires come to matter as one goes, not ahead of that.
		{"x 1; cx 0 1; x 1", "0", "0 1", "1 2"},
		{"cx 0 1; cx 1 2; cx 2 3", "0", "0", "0 1 2"},
		{"cx 0 1; cx 1 2; cx 2 3", "3", "0 1 2", "2"},
		{"cx 0 1; cx 1 2; cx 2 3", "1", "0 1", "0 1 2"},
		{"ccx 4 1 2; x 1; x 4; s 3", "2", "0", "0 1 2"},
		// A barrier never is one, and hands nothing on.
		{"barrier 0", "0", "", ""},
		{"x 0; barrier 0 1; x 1", "1", "2", "2"},
		{"x 0; barrier 0 1; x 1", "0", "0", "0"},
		// A reset or a measurement makes no wire cease to matter.
		{"x 0; reset 0; y 0", "0", "0 1 2", "0 1 2"},
		{"x 0; measure 0 -> 0; y 0", "0", "0 1 2", "0 1 2"},
		// Bits hand on: what sets them, and what asks them.
		{"measure 0 -> 0; if 0 1 x 1", "1", "0 1", "1"},
		{"measure 0 -> 0; if 0 1 x 1", "0", "0", "0 1"},
		{"measure 0 -> 0; if 1 1 x 1", "1", "1", "1"},
		{"x 2; measure 0 -> 0; measure 2 -> 0; if 0 1 x 1", "1", "0 1 2 3", "3"},
		{"if 0 1 x 1; measure 0 -> 0; x 1", "1", "0 2", "0 1 2"},
		{"if 0 1 x 1; measure 0 -> 0; x 1", "0", "0 1", "1"},
		{"if 0 1 x 1; if 0 0 x 2", "2", "0 1", "1"},
		{"if 0 1 x 1; if 0 0 x 2", "1", "0", "0 1"},
		{"measure 0 -> 0; measure 1 -> 0", "0", "0", "0 1"},
		// A qubit's number and a bit's are two things.
		{"measure 0 -> 1; x 1; x 0", "1", "1", "1"},
		{"measure 0 -> 1; x 1; x 0", "0", "0 2", "0 2"},
		{"if 2 0 x 0; measure 2 -> 0", "0", "0", "0"},
	} {
		c, qubits := text(t, w.ops), row(t, w.qubits)
		past.wantRow(t, c, row(t, w.past), qubits...)
		future.wantRow(t, c, row(t, w.future), qubits...)
		kept := of(c.Qubits, c.Bits)
		for _, at := range row(t, w.past) {
			kept.Ops = append(kept.Ops, c.Ops[at])
		}
		prune.wantCircuit(t, c, kept, qubits...)
	}
}

// P19.3: circuits and qubits at chance, against the slow way; in whichever order qubits are told.
func TestConesAtChance(t *testing.T) {
	chance := rand.New(rand.NewSource(1903))
	for _, c := range samples(chance, 4000) {
		qubits := some(chance, c)
		wanted := slowTold(c, qubits)
		for _, f := range []call{past, future, prune} {
			f.want(t, c, qubits, wanted[f.name])
			slices.Reverse(qubits)
			f.want(t, c, qubits, wanted[f.name])
		}
	}
}

// P19.3: the most that there can be of all.
func TestConesOfTheMost(t *testing.T) {
	stairs := of(64, 64)
	for at := range 4096 {
		stairs.Ops = append(stairs.Ops, do(api.GateCX, at%64, (at+1)%64))
	}
	for q := range 64 {
		future.wantRow(t, stairs, slowFuture(stairs, []int{q}), q)
		past.wantRow(t, stairs, slowPast(stairs, []int{q}), q)
	}
	all := chance64()
	past.wantRow(t, stairs, upTo(4096), all...)
	future.wantRow(t, stairs, upTo(4096), all...)
	prune.wantCircuit(t, stairs, stairs, all...)
	for k := range 64 {
		c := of(64, 64, measure(k, 63-k), when(63-k, 1, do(api.GateX, (k+1)%64)), do(api.GateX, (k+2)%64))
		past.wantRow(t, c, []int{0, 1}, (k+1)%64)
		past.wantRow(t, c, []int{0}, k)
		past.wantRow(t, c, []int{2}, (k+2)%64)
		future.wantRow(t, c, []int{0, 1}, k)
	}
	past.wantRow(t, of(0, 0), nil)
	future.wantRow(t, of(0, 0), nil)
	prune.wantCircuit(t, of(0, 0), of(0, 0))
}

// chance64 are all of 64 qubits, mixed.
func chance64() []int { return rand.New(rand.NewSource(1904)).Perm(64) }

// P19.3: qubits that may not be asked of.
func TestWrongQubits(t *testing.T) {
	long := make([]int, 1<<20)
	for _, f := range []call{past, future, prune} {
		for _, w := range []struct {
			n      int
			qubits []int
		}{
			{0, []int{0}}, {0, []int{-1}}, {1, []int{1}}, {1, []int{0, 0}}, {1, []int{-1}}, {1, []int{0, 1}},
			{3, []int{3}}, {3, []int{0, 0}}, {3, []int{2, 1, 2}}, {3, []int{0, 1, 2, 0}}, {3, []int{0, 1, 2, 3}}, {3, []int{-1, 0}}, {3, []int{0, 64}}, {3, []int{127}}, {3, []int{128}},
			{3, []int{great}}, {3, []int{least}}, {64, []int{64}}, {64, []int{65}}, {64, []int{127}}, {64, []int{128}}, {64, append(upTo(64), 63)}, {64, upTo(65)}, {64, []int{-1}}, {64, []int{0, -64}},
			{64, long},
		} {
			f.refuses(t, "wrong qubits", of(w.n, 64), w.qubits, api.ErrLayers)
			if w.n > 0 {
				f.refuses(t, "wrong qubits", of(w.n, 64, do(api.GateX, 0), barrier(0), measure(0, 63)), w.qubits, api.ErrLayers)
			}
		}
	}
}
