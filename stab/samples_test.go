package stab_test

import (
	"math"
	"math/rand"
	"slices"
	"testing"

	"phasor/api"
	"phasor/gate"
	"phasor/pauli"
	"phasor/stab"
)

const (
	least = math.MinInt
	great = math.MaxInt
	tiny  = math.SmallestNonzeroFloat64
	below = 1 - 0x1p-53   // the greatest float below 1
	under = 0.5 - 0x1p-54 // the greatest float below a half
)

var (
	nan    = math.NaN()
	inf    = math.Inf(1)
	minus0 = math.Copysign(0, -1)
)

// Operations in short.

func do(k api.GateKind, qubits ...int) api.Op {
	return api.Op{Kind: api.OpGate, Gate: k, Qubits: qubits, If: -1}
}

func when(bit, value int, op api.Op) api.Op {
	op.If, op.When = bit, value
	return op
}

func measure(qubit, bit int) api.Op {
	return api.Op{Kind: api.OpMeasure, Qubits: []int{qubit}, Bit: bit, If: -1}
}

func reset(qubit int) api.Op {
	return api.Op{Kind: api.OpReset, Qubits: []int{qubit}, If: -1}
}

func barrier(qubits ...int) api.Op {
	return api.Op{Kind: api.OpBarrier, Qubits: qubits, If: -1}
}

func of(qubits, bits int, ops ...api.Op) api.Circuit {
	return api.Circuit{Qubits: qubits, Bits: bits, Ops: ops}
}

// repeated is a row of operations so many times.
func repeated(n int, ops ...api.Op) []api.Op {
	var l []api.Op
	for range n {
		l = append(l, ops...)
	}
	return l
}

// bell is the chapter's circuit.
func bell() api.Circuit {
	return of(2, 2, do(api.GateW, 0), do(api.GateCX, 0, 1), measure(0, 0), measure(1, 1))
}

// wish is what a Clifford circuit at chance may have at most; a count that is used up is not drawn again.
type wish struct {
	qubits, bits, ops, halves, measures int
}

// drawn is a circuit at chance, of just so many qubits, bits and operations.
func (w wish) drawn(chance *rand.Rand) api.Circuit {
	c := of(w.qubits, w.bits)
	for range w.ops {
		c.Ops = append(c.Ops, w.op(chance))
	}
	return c
}

func (w *wish) op(chance *rand.Rand) api.Op {
	mixed := chance.Perm(w.qubits)
	switch draw := chance.Intn(12); {
	case draw < 2 && w.measures > 0 && w.bits > 0:
		w.measures--
		return measure(mixed[0], chance.Intn(w.bits))
	case draw == 2 && w.measures > 0:
		w.measures--
		return reset(mixed[0])
	case draw == 3:
		return barrier(mixed[:1+chance.Intn(w.qubits)]...)
	}
	op := w.gate(chance, mixed)
	if w.bits > 0 && chance.Intn(3) == 0 {
		return when(chance.Intn(w.bits), chance.Intn(2), op)
	}
	return op
}

// gate is one on the first of these qubits; halving ones come oftener than they would, as long as they may.
func (w *wish) gate(chance *rand.Rand, qubits []int) api.Op {
	for {
		k := api.GateKind(1 + chance.Intn(17))
		if chance.Intn(3) == 0 {
			k = []api.GateKind{api.GateV, api.GateW, api.GateHH}[chance.Intn(3)]
		}
		if gate.Arity(k) > len(qubits) || gate.Halving(k) && w.halves == 0 {
			continue
		}
		if gate.Halving(k) {
			w.halves--
		}
		return do(k, slices.Clone(qubits[:gate.Arity(k)])...)
	}
}

// numbers are so many from 0 to below 1.
func numbers(chance *rand.Rand, n int) []float64 {
	l := make([]float64, n)
	for i := range l {
		l[i] = chance.Float64()
		if chance.Intn(4) == 0 {
			l[i] = []float64{0, minus0, tiny, 0.25, under, 0.5, 0.75, below}[chance.Intn(8)]
		}
	}
	return l
}

// refusedNumbers are those that no measurement takes.
func refusedNumbers() []float64 {
	return []float64{1, math.Nextafter(1, 2), 2, -tiny, -0.5, -1, inf, -inf, nan, math.MaxFloat64}
}

// measurements counts what needs a number.
func measurements(c api.Circuit) int {
	n := 0
	for _, op := range c.Ops {
		if op.Kind == api.OpMeasure || op.Kind == api.OpReset {
			n++
		}
	}
	return n
}

// deep is a copy by hand.
func deep(c api.Circuit) api.Circuit {
	d := of(c.Qubits, c.Bits)
	for _, op := range c.Ops {
		op.Qubits = append([]int{}, op.Qubits...)
		d.Ops = append(d.Ops, op)
	}
	return d
}

// wrongCircuits may not be; some of them have a gate that is no Clifford gate besides.
func wrongCircuits() []api.Circuit {
	return []api.Circuit{
		of(-1, 0), of(65, 0), of(1, -1), of(1, 65), of(great, great), of(least, 0),
		of(1, 1, repeated(4097, do(api.GateX, 0))...),
		of(1, 1, do(api.GateX, 1)), of(1, 1, do(api.GateX, -1)), of(1, 1, do(21, 0)), of(1, 1, do(0, 0)), of(2, 1, do(api.GateCX, 0)), of(2, 1, do(api.GateCX, 1, 1)),
		of(1, 1, measure(1, 0)), of(1, 1, measure(0, 1)), of(1, 0, measure(0, 0)), of(1, 1, reset(1)), of(1, 1, barrier()), of(2, 1, barrier(0, 0)),
		of(1, 1, when(1, 0, do(api.GateX, 0))), of(1, 1, when(0, 2, do(api.GateX, 0))), of(1, 1, when(-1, 1, do(api.GateX, 0))), of(1, 1, when(0, 0, measure(0, 0))), of(1, 1, when(0, 0, reset(0))),
		of(1, 1, api.Op{}), of(1, 1, api.Op{Kind: 5, Qubits: []int{0}, If: -1}), of(64, 1, do(api.GateX, 64)), of(0, 0, do(api.GateX, 0)),
		of(2, 0, do(api.GateCCX, 0, 1, 2)), of(3, 0, do(api.GateCSw, 0, 1, 1)), of(3, 0, do(api.GateCCX, 0, 1, 2), do(api.GateX, 3)), of(65, 0, do(api.GateCCZ, 0, 1, 2)),
	}
}

// otherCircuits may be, but are not of Clifford gates alone, whether these would be done or not.
func otherCircuits() []api.Circuit {
	var l []api.Circuit
	for _, k := range []api.GateKind{api.GateCCX, api.GateCCZ, api.GateCSw} {
		l = append(l,
			of(3, 0, do(k, 0, 1, 2)),
			of(64, 0, do(k, 63, 0, 31)),
			of(12, 1, append(repeated(4095, do(api.GateX, 0)), do(k, 2, 1, 0))...),
			of(3, 1, when(0, 1, do(k, 0, 1, 2))),
			of(3, 1, measure(0, 0), when(0, 1, do(k, 0, 1, 2)), reset(1)))
	}
	return l
}

func sameOp(a, b api.Op) bool {
	return a.Kind == b.Kind && a.Gate == b.Gate && slices.Equal(a.Qubits, b.Qubits) && a.Bit == b.Bit && a.If == b.If && a.When == b.When
}

// sameLog compares weights by their bits.
func sameLog(a, b []api.Outcome) bool {
	bits := math.Float64bits
	return slices.EqualFunc(a, b, func(x, y api.Outcome) bool {
		return x == y && bits(x.Zero) == bits(y.Zero) && bits(x.One) == bits(y.One)
	})
}

func sameTableau(a, b api.Tableau) bool {
	return a.N == b.N && slices.Equal(a.Stab, b.Stab) && slices.Equal(a.Destab, b.Destab)
}

// sameState compares amplitudes by their bits.
func sameState(a, b []complex128) bool {
	bits := math.Float64bits
	return slices.EqualFunc(a, b, func(x, y complex128) bool {
		return bits(real(x)) == bits(real(y)) && bits(imag(x)) == bits(imag(y))
	})
}

// machine is one that New gives.
func machine(t *testing.T, c api.Circuit) *stab.Machine {
	t.Helper()
	m, e := stab.New(c)
	if e != api.OK || m == nil {
		t.Fatal("New:", e)
	}
	return m
}

// ended is a machine that has run a circuit.
func ended(t *testing.T, c api.Circuit, us ...float64) *stab.Machine {
	t.Helper()
	m := machine(t, c)
	if _, e := m.Run(us); e != api.OK {
		t.Fatal("Run:", e)
	}
	return m
}

// read is strings of texts.
func read(texts ...string) []api.Pauli {
	l := make([]api.Pauli, len(texts))
	for i, text := range texts {
		p, e := pauli.Parse(text)
		if e != api.OK {
			panic(text)
		}
		l[i] = p
	}
	return l
}

// table is a tableau of texts: the first half of them is Stab, the second Destab.
func table(texts ...string) api.Tableau {
	l, n := read(texts...), len(texts)/2
	return api.Tableau{N: n, Stab: slices.Clone(l[:n]), Destab: slices.Clone(l[n:])}
}

// fresh is the tableau of n qubits at 0, by hand.
func fresh(n int) api.Tableau {
	t := api.Tableau{N: n}
	for q := range n {
		t.Stab = append(t.Stab, api.Pauli{N: n, Z: 1 << q})
		t.Destab = append(t.Destab, api.Pauli{N: n, X: 1 << q})
	}
	return t
}

// copied is a tableau in memory of its own.
func copied(t api.Tableau) api.Tableau {
	return api.Tableau{N: t.N, Stab: slices.Clone(t.Stab), Destab: slices.Clone(t.Destab)}
}

// anyTableau is a right one at chance, with strings that no gates alone would give: signs, other generators, other orders.
func anyTableau(chance *rand.Rand, n, turns int) api.Tableau {
	m := slowNew(of(n, 0))
	for range turns {
		if n == 0 {
			break
		}
		w := wish{halves: 1}
		m.gate(w.gate(chance, chance.Perm(n)))
		t, i, j := m.t, chance.Intn(n), chance.Intn(n)
		switch chance.Intn(4) {
		case 0:
			t.Stab[i].Phase ^= 2
			t.Destab[j].Phase ^= 2
		case 1:
			t.Stab[i], t.Stab[j] = t.Stab[j], t.Stab[i]
			t.Destab[i], t.Destab[j] = t.Destab[j], t.Destab[i]
		case 2:
			if i != j {
				t.Stab[i], t.Destab[j] = mul(t.Stab[i], t.Stab[j]), mul(t.Destab[j], t.Destab[i])
			}
		}
	}
	return m.t
}

// wrongTableaux are not right.
func wrongTableaux() []api.Tableau {
	phased, long, wide := fresh(2), fresh(2), fresh(13)
	phased.Stab[1].Phase = 1
	long.Destab[0].N = 3
	wide.Stab[12] = wide.Stab[0]
	return []api.Tableau{
		{N: 1}, {N: -1}, {N: least}, {N: great}, {N: 65}, {N: 13}, phased, long, wide,
		{N: 0, Stab: fresh(1).Stab}, {N: 0, Destab: fresh(1).Destab}, {N: 1, Stab: fresh(1).Stab}, {N: 1, Destab: fresh(1).Destab},
		{N: 2, Stab: fresh(2).Stab, Destab: fresh(2).Destab[:1]}, {N: 1, Stab: fresh(2).Stab, Destab: fresh(2).Destab},
		table("+Z", "+Z"), table("+I", "+X"), table("+Z", "-I"), table("+ZI", "+ZI", "+XI", "+IX"), table("+ZI", "+XI", "+XI", "+IX"), table("+ZI", "+IZ", "+IX", "+XI"), table("+iZ", "+X"),
		{N: 65, Stab: make([]api.Pauli, 65), Destab: make([]api.Pauli, 65)},
	}
}
