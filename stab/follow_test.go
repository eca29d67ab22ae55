package stab_test

import (
	"math"
	"math/rand"
	"slices"
	"testing"

	"phasor/api"
	"phasor/circuit"
	"phasor/gate"
	"phasor/pauli"
	"phasor/plane"
	"phasor/run"
	"phasor/stab"
	"phasor/state"
)

// plain is the plain machine of a circuit.
func plain(t *testing.T, c api.Circuit) *run.Machine {
	t.Helper()
	m, e := run.New(c)
	if e != api.OK {
		t.Fatal("the plain machine:", e)
	}
	return m
}

// wantOne takes the two machines to have come to one: the same bits and values, weights in one proportion, one state up to a phase and a factor.
func wantOne(t *testing.T, m *stab.Machine, other *run.Machine) {
	t.Helper()
	if m.At() != other.At() || !slices.Equal(m.Bits(), other.Bits()) {
		t.Fatalf("at %d and %d, bits %v and %v", m.At(), other.At(), m.Bits(), other.Bits())
	}
	wantProportion(t, m.Log(), other.Log())
	s := other.State()
	if weight, _ := state.Weight(s); weight != math.Ldexp(1, -m.Open()) {
		t.Fatalf("weight %v, open %d", weight, m.Open())
	}
	a := m.Tableau()
	for _, p := range a.Stab {
		if left, e := pauli.Act(p, s); e != api.OK || !sameState(left, s) {
			t.Fatal(p, "does not leave", s)
		}
	}
	wantMultiple(t, s, a)
}

func wantProportion(t *testing.T, l, others []api.Outcome) {
	t.Helper()
	if len(l) != len(others) {
		t.Fatal("logs:", l, others)
	}
	for i, o := range l {
		p := others[i]
		if o.Op != p.Op || o.Qubit != p.Qubit || o.Bit != p.Bit || o.Value != p.Value || o.Zero*p.One != o.One*p.Zero || o.Zero+o.One != 1 {
			t.Fatal("outcomes:", o, p)
		}
	}
}

// wantMultiple takes a state to be a multiple of the tableau's. The parts of that one are noughts or one power of two, so products with it are exact.
func wantMultiple(t *testing.T, s []complex128, a api.Tableau) {
	t.Helper()
	r, e := stab.State(a)
	if e != api.OK {
		t.Fatal("State:", e)
	}
	at := slices.IndexFunc(r, func(z complex128) bool { return z != 0 })
	for k := range s {
		if !plane.Equal(plane.Mul(s[k], r[at]), plane.Mul(s[at], r[k])) {
			t.Fatalf("%v is no multiple of %v", s, r)
		}
	}
}

// wantBoth runs a circuit step by step on both machines, and compares them behind each step; and once more at one go.
func wantBoth(t *testing.T, c api.Circuit, us []float64) {
	t.Helper()
	m, other := machine(t, c), plain(t, c)
	used := 0
	for range c.Ops {
		u := nan
		if used < len(us) {
			u = us[used]
		}
		asked, e := m.Step(u)
		otherAsked, otherError := other.Step(u)
		if asked != otherAsked || e != api.OK || otherError != api.OK {
			t.Fatal("Step:", asked, otherAsked, e, otherError)
		}
		if asked {
			used++
		}
		wantOne(t, m, other)
	}
	wantRuns(t, c, us)
}

// wantRuns runs a circuit on both machines, and compares them in the end.
func wantRuns(t *testing.T, c api.Circuit, us []float64) {
	t.Helper()
	m, other := machine(t, c), plain(t, c)
	used, e := m.Run(us)
	otherUsed, otherError := other.Run(us)
	if used != otherUsed || e != api.OK || otherError != api.OK {
		t.Fatal("Run:", used, otherUsed, e, otherError)
	}
	wantOne(t, m, other)
}

// P15.6, W5: circuits at chance, of all numbers of qubits that both machines run.
func TestTwoMachines(t *testing.T) {
	chance := rand.New(rand.NewSource(1508))
	for n := 1; n <= 12; n++ {
		for range 2 + 400>>n {
			w := wish{qubits: n, bits: chance.Intn(5), ops: chance.Intn(60), halves: 24, measures: 60}
			c := w.drawn(chance)
			us := numbers(chance, measurements(c))
			if n <= 8 {
				wantBoth(t, c, us)
			}
			wantRuns(t, c, us)
		}
	}
	wantRuns(t, of(0, 0), nil)
	wantRuns(t, of(0, 64), nil)
}

// P15.6: just MaxHalves halving gates, of each kind, with as many open outcomes as they can give.
func TestTwoMachinesAtTheEdge(t *testing.T) {
	for _, k := range gate.Kinds() {
		if !gate.Halving(k) {
			continue
		}
		for _, u := range []float64{0, tiny, under, 0.5, below} {
			qubits, open := []int{0}, 24
			if gate.Arity(k) == 2 {
				qubits, open = []int{0, 1}, 48
			}
			ops := []api.Op{do(k, qubits...), measure(0, 0), reset(1)}
			c := of(2, 1, repeated(24, ops...)...)
			us := slices.Repeat([]float64{u}, 48)
			wantBoth(t, c, us)
			m := ended(t, c, us...)
			if m.Open() != open || circuit.Halves(c) != api.MaxHalves {
				t.Error(k, m.Open(), circuit.Halves(c))
			}
		}
	}
}

// P15.6: each Clifford gate behind each other one, in both orders of the qubits, from qubits that are turned into all letters.
func TestTwoMachinesOnPairsOfGates(t *testing.T) {
	cliffords := gate.Kinds()[:17]
	for _, first := range cliffords {
		for _, second := range cliffords {
			for side := range 2 {
				qubits := []int{side, 1 - side}
				c := of(2, 2, do(api.GateW, 0), do(api.GateV, 1), do(api.GateS, side),
					do(first, []int{0, 1}[:gate.Arity(first)]...), do(second, qubits[:gate.Arity(second)]...),
					measure(side, 0), when(0, 1, do(second, qubits[:gate.Arity(second)]...)), reset(1-side), measure(1-side, 1))
				for _, u := range []float64{0.25, 0.75} {
					wantBoth(t, c, []float64{u, u, 1 - u})
				}
			}
		}
	}
}

// W5: both refuse the same numbers at the same place, and have used as many ahead.
func TestTwoMachinesRefuse(t *testing.T) {
	chance := rand.New(rand.NewSource(1509))
	refused := refusedNumbers()
	for range 200 {
		c := wish{qubits: 1 + chance.Intn(5), bits: chance.Intn(3), ops: chance.Intn(40), halves: 24, measures: 40}.drawn(chance)
		us := numbers(chance, chance.Intn(measurements(c)+1))
		if len(us) > 0 {
			us[chance.Intn(len(us))] = refused[chance.Intn(len(refused))]
		}
		m, other := machine(t, c), plain(t, c)
		used, e := m.Run(us)
		otherUsed, otherError := other.Run(us)
		if used != otherUsed || (e == api.OK) != (otherError == api.OK) || e != api.OK && (e != api.ErrStab || otherError != api.ErrRun) {
			t.Fatal("Run:", used, otherUsed, e, otherError)
		}
		wantOne(t, m, other)
	}
}

// W5: a circuit read from a text, in which a qubit is handed on by measurements and conditions.
func TestTwoMachinesTeleport(t *testing.T) {
	c, f := circuit.Parse(`OPENQASM 2.0;
qreg q[3]; creg c[3];
sx q[0]; s q[0];
sy q[1]; cx q[1], q[2];
cx q[0], q[1]; sydg q[0];
measure q[0] -> c[0]; measure q[1] -> c[1];
if (c[1] == 1) x q[2];
if (c[0] == 1) z q[2];
sdg q[2]; sxdg q[2];
measure q[2] -> c[2];`)
	if f.Code != api.OK {
		t.Fatal(f)
	}
	for _, us := range [][]float64{{0.25, 0.25, 0.25}, {0.25, 0.75, 0.25}, {0.75, 0.25, 0.25}, {0.75, 0.75, 0.25}} {
		wantBoth(t, c, us)
		m := ended(t, c, us...)
		if l := m.Log(); m.Open() != 2 || m.Bits()[2] != 0 || l[2].Zero != 1 {
			t.Error(us, l)
		}
	}
}

// FuzzBoth is P15.1 to P15.6 of circuits that come from bytes, which need not be right: against the slow machine, and the plain one.
func FuzzBoth(f *testing.F) {
	f.Add([]byte{9, 0, 0, 0, 11, 0, 1, 0, 40, 0, 0, 0, 40, 1, 1, 1}, 0.3, 0.9, 2, 2)
	f.Add([]byte{2, 0, 0, 0, 41, 0, 0, 0, 42, 0, 1, 0, 102, 0, 1, 1}, 0.5, 1.0, 2, 1)
	f.Add([]byte{17, 0, 1, 2, 40, 1, 0, 0, 117, 1, 0, 2, 41, 0, 0, 0}, 0.75, 0.0, 5, 3)
	f.Add([]byte{18, 0, 1, 2}, 0.75, 0.0, 5, 3)
	f.Fuzz(func(t *testing.T, l []byte, u, v float64, qubits, bits int) {
		c := of(qubits%65, bits%8)
		for at := 0; at+4 <= len(l) && len(c.Ops) < 60; at += 4 {
			c.Ops = append(c.Ops, byteOp([4]byte(l[at:])))
		}
		us := []float64{u, v, 0.25, u, 0.5, v, 0, below, 0.25, 0.75}
		m, e := stab.New(c)
		if _, wrong := circuit.Check(c); wrong != api.OK || !circuit.Clifford(c) {
			if m != nil || wrong != api.OK && e != wrong || wrong == api.OK && e != api.ErrStab {
				t.Fatal("New:", e, wrong)
			}
			return
		}
		wanted := slowNew(c)
		used, e := m.Run(us)
		if slowUsed, slowError := wanted.run(us); used != slowUsed || e != slowError {
			t.Fatal("Run:", used, e, slowUsed, slowError)
		}
		wantLike(t, "Run", m, wanted)
		if c.Qubits > 8 || circuit.Halves(c) > api.MaxHalves {
			return
		}
		other := plain(t, c)
		other.Run(us)
		wantOne(t, m, other)
		if s, e := stab.State(m.Tableau()); e != api.OK || !sameState(s, slowState(wanted.t)) {
			t.Fatal("State:", s, e)
		}
	})
}

// byteOp makes an operation of four bytes; from 100 on a gate has a condition.
func byteOp(b [4]byte) api.Op {
	first, second, third := int(b[1]), int(b[2]), int(b[3])
	switch {
	case b[0] == 40:
		return measure(first, second)
	case b[0] == 41:
		return reset(first)
	case b[0] == 42:
		return barrier(first, second)
	case b[0] >= 100:
		return when(third%8, third/8%2, byteGate(int(b[0])-100, first, second, third))
	}
	return byteGate(int(b[0]), first, second, third)
}

// byteGate has as many qubits as most gates of its number have.
func byteGate(k int, qubits ...int) api.Op {
	switch {
	case k <= 10:
		return do(api.GateKind(k), qubits[:1]...)
	case k <= 17:
		return do(api.GateKind(k), qubits[:2]...)
	}
	return do(api.GateKind(k), qubits...)
}
