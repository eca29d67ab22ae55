package fuse_test

import (
	"math/rand"
	"slices"
	"testing"

	"phasor/api"
	"phasor/apply"
	"phasor/circuit"
	"phasor/fuse"
	"phasor/gate"
	"phasor/run"
	"phasor/state"
)

// wantFused takes Apply of a circuit's Blocks to make of a basis state what Ops makes of it, by each k.
func wantFused(t *testing.T, c api.Circuit, place int) {
	t.Helper()
	s := basis(c.Qubits, place)
	wanted, _, e := apply.Ops(s, c.Ops)
	if e != api.OK {
		t.Fatal("Ops:", e)
	}
	for k := 1; k <= 6; k++ {
		l := blocks(t, c, k)
		if got := applied(t, s, l); !sameState(got, wanted) {
			t.Fatalf("%d qubits from %d by %d: %v, not %v", c.Qubits, place, k, got, wanted)
		}
		gates := 0
		for _, b := range l {
			gates += b.Gates
		}
		if all := counted(c); gates != all {
			t.Fatalf("blocks have %d gates, the circuit %d", gates, all)
		}
	}
}

// counted is how many gates a circuit has.
func counted(c api.Circuit) int {
	n := 0
	for _, many := range circuit.Counts(c) {
		n += many
	}
	return n
}

// P16.5, W2: exact circuits from basis states: the same state, bit by bit, by each k; as many gates.
func TestFusedIsTheSame(t *testing.T) {
	chance := rand.New(rand.NewSource(1612))
	for n := 1; n <= 9; n++ {
		for range 60 >> (n / 2) {
			c := wish{qubits: n, ops: chance.Intn(80), halves: 24}.row(chance)
			for range 3 {
				wantFused(t, c, chance.Intn(1<<n))
			}
		}
	}
	for range 4 {
		wantFused(t, wish{qubits: 12, ops: 80, halves: 24}.row(chance), chance.Intn(1<<12))
	}
	wantFused(t, of(0, 0), 0)
	wantFused(t, of(12, 0), 4095)
}

// P16.5, W2: just as many halves as are exact, all in one row, and each kind behind each.
func TestFusedHalves(t *testing.T) {
	chance := rand.New(rand.NewSource(1613))
	for range 40 {
		c := of(6, 0)
		for c.Ops = c.Ops[:0]; circuit.Halves(c) < api.MaxHalves; {
			w := wish{qubits: 6, halves: api.MaxHalves}
			c.Ops = append(c.Ops, w.gate(chance, chance.Perm(6)))
		}
		wantFused(t, c, chance.Intn(64))
	}
	for _, first := range gate.Kinds() {
		for _, second := range gate.Kinds() {
			c := of(4, 0, do(api.GateHH, 0, 1), do(api.GateW, 2), do(api.GateV, 3), do(first, []int{3, 1, 0}[:gate.Arity(first)]...), do(second, []int{1, 3, 2}[:gate.Arity(second)]...))
			wantFused(t, c, 5)
		}
	}
}

// P16.5, W2: from basis states no nought of the state has a sign, and the weight is 1.
func TestFusedIsExact(t *testing.T) {
	chance := rand.New(rand.NewSource(1614))
	for range 60 {
		n := 1 + chance.Intn(8)
		c := wish{qubits: n, ops: 60, halves: 24}.row(chance)
		s := applied(t, basis(n, chance.Intn(1<<n)), blocks(t, c, 1+chance.Intn(6)))
		if weight, e := state.Weight(s); !state.Exact(s, circuit.Halves(c)) || weight != 1 || e != api.OK {
			t.Fatal("not exact:", weight, s)
		}
	}
}

// wantAsPlain takes Run to come to what the plain machine comes to, by each k, errors too.
func wantAsPlain(t *testing.T, c api.Circuit, us []float64) {
	t.Helper()
	wanted, e := run.Run(c, us)
	for k := 1; k <= 6; k++ {
		if x, f := fuse.Run(c, k, us); f != e || !sameResult(x, wanted) {
			t.Fatalf("by %d: %v, error %d, not %v, %d", k, x, f, wanted, e)
		}
	}
}

// P16.5, W2: exact circuits with measurements, resets and conditions: what the plain machine comes to, by each k.
func TestRunIsThePlainRun(t *testing.T) {
	chance := rand.New(rand.NewSource(1615))
	for range 400 {
		c := wish{qubits: 1 + chance.Intn(7), bits: chance.Intn(5), ops: chance.Intn(60), halves: 24, measures: 20}.drawn(chance)
		wantAsPlain(t, c, someNumbers(chance, c))
	}
	for range 4 {
		c := wish{qubits: 12, bits: 64, ops: 60, halves: 24, measures: 20}.drawn(chance)
		wantAsPlain(t, c, someNumbers(chance, c))
	}
}

// P16.5: a circuit read from a text, in which a qubit is handed on by measurements and conditions.
func TestRunTeleports(t *testing.T) {
	c, f := circuit.Parse(`OPENQASM 2.0;
qreg q[3]; creg c[3];
sx q[0]; s q[0]; barrier q;
sy q[1]; cx q[1], q[2];
cx q[0], q[1]; sydg q[0];
measure q[0] -> c[0]; measure q[1] -> c[1];
if (c[1] == 1) x q[2];
if (c[0] == 1) z q[2];
sdg q[2]; sxdg q[2];
measure q[2] -> c[2];`)
	if f.Code != api.OK {
		t.Fatal(f)
	}
	for _, us := range [][]float64{{0.25, 0.25, 0.25}, {0.25, 0.75, 0.25}, {0.75, 0.25, 0.25}, {0.75, 0.75, 0.25}} {
		wantAsPlain(t, c, us)
		if x := come(t, c, 3, us...); x.Bits[2] != 0 || x.Log[2].Op != 13 || x.Log[2].One != 0 {
			t.Error(us, x)
		}
	}
}

// wantOrdered takes a plan to have each gate in one row, rising, no row that is too wide but of one gate, no gate ahead of one that it had a qubit in common with, and no wall gone through.
func wantOrdered(t *testing.T, c api.Circuit, k int) {
	t.Helper()
	rowOf := map[int]int{}
	for i, row := range plan(t, c, k) {
		if !slices.IsSorted(row) || len(row) == 0 || len(row) > 1 && len(qubitsOf(c, row)) > k {
			t.Fatal("a row that may not be:", row)
		}
		for _, place := range row {
			if _, twice := rowOf[place]; twice {
				t.Fatal("a place in two rows:", place)
			}
			rowOf[place] = i
		}
	}
	if len(rowOf) != counted(c) {
		t.Fatal("gates are left out:", len(rowOf))
	}
	wall := -1
	for late, op := range c.Ops {
		if op.Kind == api.OpBarrier {
			wall = late
			continue
		}
		for early, other := range c.Ops[:late] {
			if other.Kind == api.OpBarrier {
				continue
			}
			common := slices.ContainsFunc(op.Qubits, func(q int) bool { return slices.Contains(other.Qubits, q) })
			if common && rowOf[late] < rowOf[early] || early < wall && rowOf[late] <= rowOf[early] {
				t.Fatalf("%d goes ahead of %d", late, early)
			}
		}
	}
}

// P16.1, P16.5: what makes fusing right, of plans of circuits of all sizes.
func TestPlanKeepsTheOrder(t *testing.T) {
	chance := rand.New(rand.NewSource(1616))
	for range 300 {
		c := wish{qubits: 1 + chance.Intn(20), ops: chance.Intn(80), halves: 80}.row(chance)
		for k := 1; k <= 6; k++ {
			wantOrdered(t, c, k)
		}
	}
	wantOrdered(t, wish{qubits: 64, ops: 1000, halves: 1000}.row(chance), 6)
}

// FuzzFuse is P16.1 to P16.5 of circuits that come from bytes, which need not be right: against the slow way, and the plain machine.
func FuzzFuse(f *testing.F) {
	f.Add([]byte{9, 0, 0, 0, 11, 0, 1, 0, 40, 0, 0, 0, 40, 1, 1, 1}, 0.3, 0.9, 2, 2, 2)
	f.Add([]byte{2, 0, 0, 0, 41, 0, 0, 0, 42, 0, 1, 0, 102, 0, 1, 1}, 0.5, 1.0, 2, 1, 1)
	f.Add([]byte{17, 0, 1, 2, 18, 2, 1, 0, 42, 0, 1, 0, 8, 1, 0, 2, 20, 3, 0, 1}, 0.75, 0.0, 5, 3, 3)
	f.Add([]byte{18, 0, 1, 2, 11, 61, 3, 0}, 0.75, 0.0, 64, 3, 6)
	f.Fuzz(func(t *testing.T, l []byte, u, v float64, qubits, bits, k int) {
		c := of(qubits%65, bits%8)
		for at := 0; at+4 <= len(l) && len(c.Ops) < 60; at += 4 {
			c.Ops = append(c.Ops, byteOp([4]byte(l[at:])))
		}
		us := []float64{u, v, 0.25, u, 0.5, v, 0, below, 0.25, 0.75}
		if _, e := circuit.Check(c); e != api.OK {
			wantRefused(t, "a wrong circuit", c, k, e)
			wantNoRun(t, "a wrong circuit", c, k, us, e)
			return
		}
		wantByBytes(t, c, k)
		switch {
		case c.Qubits > 12:
			wantNoRun(t, "a wide circuit", c, k, us, api.ErrState)
		case k < 1 || k > 6:
			wantNoRun(t, "a wrong k", c, k, us, api.ErrFuse)
		case c.Qubits <= 8:
			wantRun(t, "bytes", c, k, us)
			if circuit.Halves(c) <= api.MaxHalves {
				wantAsPlain(t, c, us)
			}
		}
	})
}

// wantByBytes holds Plan and Blocks of a circuit that may be against the slow ones.
func wantByBytes(t *testing.T, c api.Circuit, k int) {
	t.Helper()
	if !circuit.Unitary(c) || k < 1 || k > 6 {
		wantRefused(t, "what cannot be fused", c, k, api.ErrFuse)
		return
	}
	wantPlan(t, "bytes", c, k, slowPlan(c, k)...)
	if l := blocks(t, c, k); !sameBlocks(l, slowBlocks(t, c, k)) {
		t.Fatal("Blocks:", l)
	}
}

// byteOp makes an operation of four bytes; from 100 on a gate has a condition.
func byteOp(b [4]byte) api.Op {
	first, second, third := int(b[1]), int(b[2]), int(b[3])
	switch {
	case b[0] == 40:
		return measure(first, second)
	case b[0] == 41:
		return reset(first)
	case b[0] == 42:
		return barrier(first, second)
	case b[0] >= 100:
		return when(third%8, third/8%2, byteGate(int(b[0])-100, first, second, third))
	}
	return byteGate(int(b[0]), first, second, third)
}

// byteGate has as many qubits as most gates of its number have.
func byteGate(k int, qubits ...int) api.Op {
	switch {
	case k <= 10:
		return do(api.GateKind(k), qubits[:1]...)
	case k <= 17:
		return do(api.GateKind(k), qubits[:2]...)
	}
	return do(api.GateKind(k), qubits...)
}
