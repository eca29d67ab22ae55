package rewrite_test

import (
	"math"
	"math/rand"
	"slices"
	"testing"

	"phasor/api"
	"phasor/apply"
	"phasor/circuit"
	"phasor/gate"
	"phasor/odds"
	"phasor/plane"
	"phasor/rewrite"
	"phasor/run"
	"phasor/state"
)

func applied(t *testing.T, s []complex128, c api.Circuit) []complex128 {
	t.Helper()
	s, _, e := apply.Ops(s, c.Ops)
	if e != api.OK {
		t.Fatal("Ops:", e)
	}
	return s
}

func same(a, b []complex128) bool { return slices.EqualFunc(a, b, plane.Same) }

// basis is a basis state, by hand.
func basis(n, k int) []complex128 {
	s := make([]complex128, 1<<n)
	s[k] = 1
	return s
}

// drawnState is one that is exact with at most so many halves, with a weight above 0 of at most 1: what gates make of a basis state, what is left of it when a qubit has been projected, or parts at chance that are small enough.
func drawnState(t *testing.T, chance *rand.Rand, n, halves int) []complex128 {
	t.Helper()
	for {
		s := basis(n, chance.Intn(1<<n))
		if chance.Intn(3) == 0 {
			s = smallParts(chance, n, halves)
		} else if n > 0 {
			w := wish{qubits: n, halves: halves}
			for range 3*n + 2*halves {
				s = applied(t, s, of(n, 0, w.gate(chance, chance.Perm(n))))
			}
			if chance.Intn(2) == 0 {
				s, _ = odds.Project(s, chance.Intn(n), chance.Intn(2))
			}
		}
		weight, e := state.Weight(s)
		if e != api.OK || weight > 1 || !state.Exact(s, halves) {
			t.Fatal("no such state:", weight, s)
		}
		if weight > 0 {
			return s
		}
	}
}

// smallParts has multiples of 2^-halves whose squares are together at most 1.
func smallParts(chance *rand.Rand, n, halves int) []complex128 {
	most := int(math.Ldexp(1, halves-(n+2)/2)) // 0, if there is none but 0
	part := func() float64 { return math.Ldexp(float64(chance.Intn(2*most+1)-most), -halves) }
	s := make([]complex128, 1<<n)
	for k := range s {
		s[k] = complex(part(), part())
	}
	return s
}

// ran is what a circuit comes to from a state, with numbers; places are left out of the log.
func ran(t *testing.T, c api.Circuit, s []complex128, bits []int, us []float64) api.Result {
	t.Helper()
	m, e := run.From(c, s, bits)
	if e != api.OK {
		t.Fatal("From:", e)
	}
	used, e := m.Run(us)
	if e != api.OK {
		t.Fatal("Run:", e)
	}
	x := api.Result{State: m.State(), Bits: m.Bits(), Log: m.Log(), Used: used}
	for i := range x.Log {
		x.Log[i].Op = 0
	}
	return x
}

func sameResult(x, y api.Result) bool {
	return same(x.State, y.State) && slices.Equal(x.Bits, y.Bits) && slices.Equal(x.Log, y.Log) && x.Used == y.Used
}

// wantAlike takes two circuits to come to the same from a state at chance, which has just as many halves as are left.
func wantAlike(t *testing.T, chance *rand.Rand, what string, c, d api.Circuit) {
	t.Helper()
	room := api.MaxHalves - max(circuit.Halves(c), circuit.Halves(d))
	if room < 0 {
		return
	}
	bits, us := make([]int, c.Bits), make([]float64, 10)
	for i := range bits {
		bits[i] = chance.Intn(2)
	}
	for i := range us {
		us[i] = []float64{0, 0.25, 0.5, 0.75, below, chance.Float64()}[chance.Intn(6)]
	}
	s := drawnState(t, chance, c.Qubits, room)
	if x, y := ran(t, c, s, bits, us), ran(t, d, s, bits, us); !sameResult(x, y) {
		t.Fatalf("%s: %v of %v, not %v of %v", what, y, d, x, c)
	}
}

// P18.6, W6: whatever is done to a circuit, it comes to the same bits, the same log and the same state.
func TestRewrittenIsTheSame(t *testing.T) {
	chance := rand.New(rand.NewSource(1814))
	tried := map[string]int{}
	for i := range 1200 {
		n := 1 + chance.Intn(4)
		family := families()[i%len(families())]
		if n < 3 && i%len(families()) == 5 {
			n = 3
		}
		c := wish{qubits: n, bits: chance.Intn(4), ops: chance.Intn(50), halves: chance.Intn(25), measures: 10, kinds: family}.drawn(chance)
		for _, f := range calls() {
			d := f.answer(t, c)
			wantAlike(t, chance, f.name, c, d)
			wantAlike(t, chance, f.name, c, exchanged(chance, d, 20))
			if len(d.Ops) != len(c.Ops) {
				tried[f.name]++
			}
		}
		// One behind the other, too.
		d := slide.answer(t, simplify.answer(t, pack.answer(t, order.answer(t, c))))
		wantAlike(t, chance, "all of them", c, d)
	}
	for _, f := range calls() {
		if f.name != "Order" && tried[f.name] < 200 {
			t.Error("too few were rewritten:", f.name, tried[f.name])
		}
	}
}

// P18.6: up to 10 qubits.
func TestRewrittenIsTheSameOfMoreQubits(t *testing.T) {
	chance := rand.New(rand.NewSource(1815))
	for n := 5; n <= 10; n++ {
		for range 20 {
			c := wish{qubits: n, bits: 3, ops: 80, halves: 15, measures: 10}.drawn(chance)
			for _, f := range calls() {
				wantAlike(t, chance, f.name, c, f.answer(t, c))
			}
		}
	}
}

// P18.6: answers are never longer, and answer themselves.
func TestAnswersAnswerThemselves(t *testing.T) {
	chance := rand.New(rand.NewSource(1816))
	for _, c := range samples(chance, 3000) {
		for _, f := range append(shortening(), order, expand) {
			d := f.answer(t, c)
			if f.name != "Expand" && len(d.Ops) > len(c.Ops) || f.name == "Order" && len(d.Ops) != len(c.Ops) {
				t.Fatalf("%s: %v of %v", f.name, d, c)
			}
			if !circuit.Same(f.answer(t, d), d) {
				t.Fatalf("%s: %v is not its own answer", f.name, d)
			}
			if d.Qubits != c.Qubits || d.Bits != c.Bits {
				t.Fatalf("%s: %d qubits, %d bits", f.name, d.Qubits, d.Bits)
			}
		}
	}
}

// R4: the same call answers the same; what was asked ahead of it turns nothing.
func TestCallsAreAlone(t *testing.T) {
	chance := rand.New(rand.NewSource(1817))
	l := samples(chance, 200)
	for _, f := range calls() {
		var first []api.Circuit
		for _, c := range l {
			first = append(first, f.answer(t, c))
		}
		for i := len(l) - 1; i >= 0; i-- {
			f.want(t, "one once more", l[i], first[i])
		}
	}
}

// W6: read again from its text, what was rewritten is the same.
func TestTexts(t *testing.T) {
	c, f := circuit.Parse(`OPENQASM 2.0;
qreg q[3]; creg c[1];
x q[2]; s q[0]; s q[0]; cz q[1], q[0]; id q[2];
measure q[1] -> c[0]; if (c[0] == 1) cz q[0], q[2]; x q[2];`)
	if f.Code != api.OK {
		t.Fatal(f)
	}
	text, _ := circuit.Print(expand.answer(t, simplify.answer(t, c)))
	if wanted := `OPENQASM 2.0;
include "qelib1.inc";
qreg q[3];
creg c[1];
x q[2];
z q[0];
sy q[0];
cx q[1], q[0];
sydg q[0];
measure q[1] -> c[0];
if (c[0] == 1) sy q[2];
if (c[0] == 1) cx q[0], q[2];
if (c[0] == 1) sydg q[2];
x q[2];
`; text != wanted {
		t.Error(text)
	}
}

// FuzzRewrite is P18.1 to P18.9 of circuits that come from bytes, which need not be right: against the slow way.
func FuzzRewrite(f *testing.F) {
	f.Add([]byte{5, 0, 0, 0, 11, 0, 1, 0, 7, 1, 0, 0}, 2, 0, uint64(3))
	f.Add([]byte{2, 0, 0, 0, 5, 1, 0, 0, 2, 0, 0, 0, 41, 1, 0, 0, 2, 1, 0, 0}, 2, 1, uint64(5))
	f.Add([]byte{13, 0, 1, 0, 13, 1, 0, 0, 19, 1, 2, 0, 4, 0, 0, 0, 19, 0, 1, 2}, 3, 2, uint64(273))
	f.Add([]byte{11, 0, 1, 0, 14, 1, 2, 0, 43, 0, 0, 0, 1, 1, 0, 0}, 3, 0, uint64(84))
	f.Add([]byte{18, 63, 1, 2, 11, 61, 3, 0, 107, 1, 0, 0}, 64, 3, uint64(0))
	f.Fuzz(func(t *testing.T, l []byte, qubits, bits int, rows uint64) {
		c := of(qubits%66, bits%66)
		for at := 0; at+4 <= len(l) && len(c.Ops) < 60; at += 4 {
			c.Ops = append(c.Ops, byteOp([4]byte(l[at:])))
		}
		for i, op := range c.Ops {
			wantTouch(t, op, c.Ops[i/2], slowTouch(op, c.Ops[i/2]))
		}
		three := []uint64{rows & 7, rows >> 3 & 7, rows >> 6 & 7}
		wanted, through := slowSynth(three)
		if d, e := rewrite.Synth(three); through != (e == api.OK) || !sameCircuit(d, wanted) {
			t.Fatalf("%v: %v %d", three, d, e)
		}
		if _, e := circuit.Check(c); e != api.OK {
			for _, f := range calls() {
				f.refuses(t, "what may not be", c, api.ErrCircuit)
			}
			return
		}
		cancel.want(t, "bytes", c, slowCancel(c))
		merge.want(t, "bytes", c, slowMerge(c))
		simplify.want(t, "bytes", c, slowSimplify(c))
		slide.want(t, "bytes", c, slowSlide(c))
		order.want(t, "bytes", c, slowOrder(c))
		expand.want(t, "bytes", c, slowExpand(t, c))
		pack.want(t, "bytes", c, slowPack(t, c))
		if rows, e := rewrite.Linear(c); e == api.OK && !slices.Equal(rows, slowLinear(t, c)) {
			t.Fatalf("%v: %v", c, rows)
		}
	})
}

// byteOp is an operation of four bytes: the first says what, and whether there is a condition; the others are qubits, or a bit.
func byteOp(b [4]byte) api.Op {
	p, q, r := int(b[1]), int(b[2]), int(b[3])
	switch what := int(b[0]); {
	case what%64 == 41:
		return measure(p, q)
	case what%64 == 42:
		return reset(p)
	case what%64 == 43:
		return barrier(p, q)
	case what >= 128:
		return when(r%4, what%2, byteGate(what%22, p, q, r))
	default:
		return byteGate(what%22, p, q, r)
	}
}

func byteGate(k int, qubits ...int) api.Op {
	return do(api.GateKind(k), qubits[:min(gate.Arity(api.GateKind(k)), 3)]...)
}
