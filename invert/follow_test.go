package invert_test

import (
	"math"
	"math/rand"
	"slices"
	"testing"

	"phasor/api"
	"phasor/apply"
	"phasor/circuit"
	"phasor/gate"
	"phasor/matrix"
	"phasor/odds"
	"phasor/plane"
	"phasor/run"
	"phasor/state"
)

func unitary(t *testing.T, c api.Circuit) api.Matrix {
	t.Helper()
	m, e := apply.Unitary(c)
	if e != api.OK {
		t.Fatal("Unitary:", e)
	}
	return m
}

func applied(t *testing.T, s []complex128, c api.Circuit) []complex128 {
	t.Helper()
	s, _, e := apply.Ops(s, c.Ops)
	if e != api.OK {
		t.Fatal("Ops:", e)
	}
	return s
}

// cleanConj is the cleaned conjugate of a row of numbers.
func cleanConj(s []complex128) []complex128 {
	l := make([]complex128, len(s))
	for i, z := range s {
		l[i] = plane.Clean(plane.Conj(z))
	}
	return l
}

func same(a, b []complex128) bool { return slices.EqualFunc(a, b, plane.Same) }

// basis is a basis state, by hand.
func basis(n, k int) []complex128 {
	s := make([]complex128, 1<<n)
	s[k] = 1
	return s
}

// drawnState is one that is exact with at most so many halves, with a weight of at most 1: what gates make of a basis state, what is left of it when some qubits have been projected, or parts at chance that are small enough.
func drawnState(t *testing.T, chance *rand.Rand, n, halves int) []complex128 {
	t.Helper()
	var s []complex128
	if chance.Intn(3) == 0 {
		s = smallParts(chance, n, halves)
	} else {
		s = basis(n, chance.Intn(1<<n))
		if n > 0 {
			s = applied(t, s, wish{qubits: n, ops: 3*n + 2*halves, halves: halves}.row(chance))
		}
		if n > 0 && chance.Intn(2) == 0 {
			s, _ = odds.Project(s, chance.Intn(n), chance.Intn(2))
		}
	}
	if weight, e := state.Weight(s); e != api.OK || weight > 1 || !state.Exact(s, halves) {
		t.Fatal("no such state:", weight, s)
	}
	return s
}

// smallParts has multiples of 2^-halves whose squares are together at most 1.
func smallParts(chance *rand.Rand, n, halves int) []complex128 {
	most := int(math.Ldexp(1, halves-(n+2)/2)) // 0, if there is none but 0
	part := func() float64 { return math.Ldexp(float64(chance.Intn(2*most+1)-most), -halves) }
	s := make([]complex128, 1<<n)
	for k := range s {
		s[k] = complex(part(), part())
	}
	return s
}

// halving is a circuit of gates and barriers that halves just so many times.
func halving(chance *rand.Rand, n, halves int) api.Circuit {
	c := of(n, 0)
	w := wish{qubits: n, halves: halves}
	for w.halves > 0 || chance.Intn(8) > 0 {
		c.Ops = append(c.Ops, w.gate(chance, chance.Perm(n)))
		if chance.Intn(12) == 0 {
			c.Ops = append(c.Ops, barrier(chance.Perm(n)[:1+chance.Intn(n)]...))
		}
	}
	return c
}

// P17.5: Inverse of Inverse is the Same circuit; Inverse and Power by -1 are one, and powers on both sides of 0 are inverses.
func TestInverseOfInverse(t *testing.T) {
	chance := rand.New(rand.NewSource(1708))
	for range 500 {
		c := wish{qubits: 1 + chance.Intn(64), bits: chance.Intn(65), ops: chance.Intn(60), halves: 60}.row(chance)
		d := inverse.answer(t, c)
		if !circuit.Same(inverse.answer(t, d), c) || !circuit.Same(power(-1).answer(t, c), d) {
			t.Fatal("another circuit:", c)
		}
		k := chance.Intn(9)
		if !circuit.Same(inverse.answer(t, power(k).answer(t, c)), power(-k).answer(t, c)) {
			t.Fatal("another power:", k, c)
		}
		if m := mirror.answer(t, c); !circuit.Same(inverse.answer(t, m), m) {
			t.Fatal("a mirror is its own inverse:", c)
		}
	}
	c := wish{qubits: 64, ops: 4096, halves: 4096}.row(chance)
	if !circuit.Same(inverse.answer(t, inverse.answer(t, c)), c) {
		t.Error("the longest")
	}
}

// wantMatrices takes the matrix of a circuit's Inverse to be its inverse, and that of its Conj to be the cleaned conjugate, exactly.
func wantMatrices(t *testing.T, c api.Circuit) {
	t.Helper()
	m, back := unitary(t, c), unitary(t, inverse.answer(t, c))
	one, _ := matrix.Identity(m.N)
	for _, pair := range [][2]api.Matrix{{m, back}, {back, m}} {
		if p, e := matrix.Mul(pair[0], pair[1]); e != api.OK || !matrix.Equal(p, one) {
			t.Fatal("not the identity:", c)
		}
	}
	conjugate := conj.answer(t, c)
	if got := unitary(t, conjugate); got.N != m.N || !same(got.E, cleanConj(m.E)) {
		t.Fatal("not the conjugate:", c)
	}
	if got := unitary(t, conj.answer(t, conjugate)); !matrix.Same(got, m) {
		t.Fatal("not the conjugate's conjugate:", c)
	}
}

// P17.5: matrices of each kind, on qubits in any order.
func TestMatricesOfEachKind(t *testing.T) {
	for _, k := range gate.Kinds() {
		for _, mixed := range [][]int{{0, 1, 2}, {2, 0, 1}, {2, 1, 0}, {1, 2, 0}} {
			wantMatrices(t, of(3, 0, do(k, mixed[:gate.Arity(k)]...)))
		}
	}
}

// P17.5: matrices of circuits at chance, up to 6 qubits and 24 halving gates.
func TestMatrices(t *testing.T) {
	chance := rand.New(rand.NewSource(1709))
	wantMatrices(t, of(0, 0))
	for n := 1; n <= 6; n++ {
		wantMatrices(t, of(n, 2))
		for range 60 >> (n / 2) {
			wantMatrices(t, halving(chance, n, chance.Intn(25)))
			wantMatrices(t, halving(chance, n, api.MaxHalves))
		}
	}
}

// P17.5, W3: a Mirror gives an exact state back, bit by bit, up to just as many halves as are exact.
func TestMirrorGivesBack(t *testing.T) {
	chance := rand.New(rand.NewSource(1710))
	for n := 1; n <= 10; n++ {
		for range 100 >> (n / 2) {
			halves := chance.Intn(13)
			room := api.MaxHalves - 2*halves
			c := halving(chance, n, halves)
			s := drawnState(t, chance, n, chance.Intn(room+1))
			if chance.Intn(2) == 0 {
				s = drawnState(t, chance, n, room)
			}
			if got := applied(t, s, mirror.answer(t, c)); !same(got, s) {
				t.Fatalf("%d qubits: %v, not %v", n, got, s)
			}
			if got := applied(t, applied(t, s, c), inverse.answer(t, c)); !same(got, s) {
				t.Fatalf("%d qubits: %v, not %v", n, got, s)
			}
		}
	}
	s := drawnState(t, chance, 12, 4)
	if got := applied(t, s, mirror.answer(t, halving(chance, 12, 10))); !same(got, s) {
		t.Error("12 qubits")
	}
}

// P17.5, W8: Conj, from the cleaned conjugate, gives the cleaned conjugate, bit by bit.
func TestConjIsTheConjugate(t *testing.T) {
	chance := rand.New(rand.NewSource(1711))
	for n := 1; n <= 10; n++ {
		for range 100 >> (n / 2) {
			halves := chance.Intn(25)
			c := halving(chance, n, halves)
			s := drawnState(t, chance, n, api.MaxHalves-halves)
			wanted := cleanConj(applied(t, s, c))
			if got := applied(t, cleanConj(s), conj.answer(t, c)); !same(got, wanted) {
				t.Fatalf("%d qubits: %v, not %v", n, got, wanted)
			}
		}
	}
}

// ran is what a circuit comes to from a state, with numbers.
func ran(t *testing.T, c api.Circuit, s []complex128, bits []int, us []float64) api.Result {
	t.Helper()
	m, e := run.From(c, s, bits)
	if e != api.OK {
		t.Fatal("From:", e)
	}
	used, e := m.Run(us)
	if e != api.OK {
		t.Fatal("Run:", e)
	}
	return api.Result{State: m.State(), Bits: m.Bits(), Log: m.Log(), Used: used}
}

// W8: measurements, resets and conditions too: the same numbers lead to the same outcomes, and to the conjugate state.
func TestConjRunsAlike(t *testing.T) {
	chance := rand.New(rand.NewSource(1712))
	for range 500 {
		n, bits := 1+chance.Intn(6), make([]int, 1+chance.Intn(4))
		for i := range bits {
			bits[i] = chance.Intn(2)
		}
		c := wish{qubits: n, bits: len(bits), ops: chance.Intn(50), halves: 20, measures: 10}.drawn(chance)
		us := make([]float64, 10)
		for i := range us {
			us[i] = []float64{0, 0.25, 0.5, 0.75, below, chance.Float64()}[chance.Intn(6)]
		}
		// A state of no weight cannot be measured.
		s := basis(n, 0)
		for weight := 0.0; weight == 0; weight, _ = state.Weight(s) {
			s = drawnState(t, chance, n, 4)
		}
		x, y := ran(t, c, s, bits, us), ran(t, conj.answer(t, c), cleanConj(s), bits, us)
		if !same(y.State, cleanConj(x.State)) || !slices.Equal(x.Bits, y.Bits) || x.Used != y.Used || !slices.EqualFunc(x.Log, y.Log, sameOutcome) {
			t.Fatalf("%v: %v, not %v", c, y, x)
		}
	}
}

// sameOutcome holds all but the places of the operations against each other: there are more of them in a conjugate.
func sameOutcome(a, b api.Outcome) bool {
	a.Op, b.Op = 0, 0
	return a == b
}

// P17.5: Control does nothing where its qubit is 0, and the circuit where it is 1.
func TestControlDoesTheCircuit(t *testing.T) {
	chance := rand.New(rand.NewSource(1713))
	for n := 1; n <= 9; n++ {
		for range 100 >> (n / 2) {
			c := plainRow(chance, n, 0, chance.Intn(40))
			d := control.answer(t, c)
			zero, one := drawnState(t, chance, n, chance.Intn(24)), drawnState(t, chance, n, chance.Intn(24))
			got := applied(t, slices.Concat(zero, one), d)
			if !same(got[:1<<n], zero) || !same(got[1<<n:], applied(t, one, c)) {
				t.Fatalf("%v: %v of %v, %v", d, got, zero, one)
			}
		}
	}
	got := applied(t, []complex128{0.5, 0.5i}, control.answer(t, of(0, 0)))
	if !same(got, []complex128{0.5, 0.5i}) {
		t.Error("of nothing:", got)
	}
}

// P17.1, P17.2: as texts, of a circuit that was read from one.
func TestTexts(t *testing.T) {
	c, f := circuit.Parse(`OPENQASM 2.0;
qreg q[3]; creg c[1];
gate bell p, r { sy p; cx p, r; }
bell q[0], q[2]; barrier q; iswap q[2], q[1];`)
	if f.Code != api.OK {
		t.Fatal(f)
	}
	text, _ := circuit.Print(inverse.answer(t, c))
	if wanted := `OPENQASM 2.0;
include "qelib1.inc";
qreg q[3];
creg c[1];
iswapdg q[2], q[1];
barrier q[0], q[1], q[2];
cx q[0], q[2];
sydg q[0];
`; text != wanted {
		t.Error(text)
	}
	text, _ = circuit.Print(conj.answer(t, c))
	if wanted := `OPENQASM 2.0;
include "qelib1.inc";
qreg q[3];
creg c[1];
sy q[0];
z q[0];
x q[0];
y q[0];
cx q[0], q[2];
barrier q[0], q[1], q[2];
iswapdg q[2], q[1];
`; text != wanted {
		t.Error(text)
	}
}

// FuzzInvert is P17.1 to P17.5 of circuits that come from bytes, which need not be right: against the slow way, and by their matrices.
func FuzzInvert(f *testing.F) {
	f.Add([]byte{5, 0, 0, 0, 11, 0, 1, 0, 7, 1, 0, 0}, 2, 0, -2)
	f.Add([]byte{3, 0, 0, 0, 40, 0, 0, 0, 9, 1, 1, 0, 112, 1, 0, 1}, 2, 1, 3)
	f.Add([]byte{2, 0, 0, 0, 14, 0, 1, 0, 42, 1, 0, 0, 1, 1, 0, 0}, 2, 2, 4096)
	f.Add([]byte{17, 2, 1, 0, 20, 0, 2, 1, 41, 0, 0, 0}, 3, 0, -1)
	f.Add([]byte{18, 63, 1, 2, 11, 61, 3, 0}, 64, 3, 0)
	f.Fuzz(func(t *testing.T, l []byte, qubits, bits, k int) {
		c := of(qubits%66, bits%66)
		for at := 0; at+4 <= len(l) && len(c.Ops) < 60; at += 4 {
			c.Ops = append(c.Ops, byteOp([4]byte(l[at:])))
		}
		if _, e := circuit.Check(c); e != api.OK {
			for _, f := range append(calls(), power(k)) {
				f.refuses(t, "a wrong circuit", c, e)
			}
			return
		}
		conj.want(t, "bytes", c, slowConj(t, c))
		wantPowerOf(t, c, k)
		wantControlOf(t, c)
		if !circuit.Unitary(c) {
			inverse.refuses(t, "bytes", c, api.ErrInverse)
			mirror.refuses(t, "bytes", c, api.ErrInverse)
			return
		}
		inverse.want(t, "bytes", c, slowInverse(t, c))
		mirror.want(t, "bytes", c, slowMirror(t, c))
		if c.Qubits <= 5 && circuit.Halves(c) <= api.MaxHalves {
			wantMatrices(t, c)
		}
	})
}

// wantPowerOf holds Power of a circuit that may be against the slow one.
func wantPowerOf(t *testing.T, c api.Circuit, k int) {
	t.Helper()
	if k < -4096 || k > 4096 || k < 0 && !circuit.Unitary(c) || k*len(c.Ops) > 4096 || -k*len(c.Ops) > 4096 {
		power(k).refuses(t, "bytes", c, api.ErrInverse)
		return
	}
	power(k).want(t, "bytes", c, slowPower(t, c, k))
}

// byteOp makes an operation of four bytes; from 100 on a gate has a condition.
func byteOp(b [4]byte) api.Op {
	first, second, third := int(b[1]), int(b[2]), int(b[3])
	switch {
	case b[0] == 40:
		return measure(first, second)
	case b[0] == 41:
		return reset(first)
	case b[0] == 42:
		return barrier(first, second)
	case b[0] >= 100:
		return when(third/2, third%2, byteGate(int(b[0])-100, first, second, third))
	}
	return byteGate(int(b[0]), first, second, third)
}

// byteGate has as many qubits as most gates of its number have.
func byteGate(k int, qubits ...int) api.Op {
	switch {
	case k <= 10:
		return do(api.GateKind(k), qubits[:1]...)
	case k <= 17:
		return do(api.GateKind(k), qubits[:2]...)
	}
	return do(api.GateKind(k), qubits...)
}
