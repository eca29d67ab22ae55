package expect_test

import (
	"math"
	"math/rand"
	"slices"
	"strconv"
	"strings"
	"testing"

	"phasor/api"
	"phasor/apply"
	"phasor/gate"
	"phasor/pauli"
)

const (
	least = math.MinInt
	great = math.MaxInt
	tiny  = math.SmallestNonzeroFloat64
)

var (
	nan    = math.NaN()
	inf    = math.Inf(1)
	minus0 = math.Copysign(0, -1)
)

// bell is the chapter's state.
func bell() []complex128 { return []complex128{0.5 + 0.5i, 0, 0, 0.5 + 0.5i} }

// read is a string of a text.
func read(text string) api.Pauli {
	p, e := pauli.Parse(text)
	if e != api.OK {
		panic(text)
	}
	return p
}

// term is a string of a text, with a weight.
func term(coef float64, text string) api.Term { return api.Term{Coef: coef, P: read(text)} }

// anyString is one of n qubits at chance.
func anyString(chance *rand.Rand, n int) api.Pauli {
	cut := func(x uint64) uint64 {
		if n == 0 {
			return 0
		}
		return x >> (64 - n)
	}
	return api.Pauli{N: n, X: cut(chance.Uint64()), Z: cut(chance.Uint64()), Phase: chance.Intn(4)}
}

// hermitian is one that is its own adjoint.
func hermitian(chance *rand.Rand, n int) api.Pauli {
	p := anyString(chance, n)
	p.Phase &= 2
	return p
}

// all is all right strings of n qubits.
func all(n int) []api.Pauli {
	var l []api.Pauli
	for phase := range 4 {
		for x := range uint64(1) << n {
			for z := range uint64(1) << n {
				l = append(l, api.Pauli{N: n, X: x, Z: z, Phase: phase})
			}
		}
	}
	return l
}

// wrongStrings are not right.
func wrongStrings() []api.Pauli {
	l := []api.Pauli{
		{N: -1}, {N: -2}, {N: -64}, {N: 65}, {N: 66}, {N: 128}, {N: 1 << 32}, {N: great}, {N: least}, {N: least + 1},
		{N: -1, X: 1}, {N: 65, X: 1, Z: 1}, {N: least, X: math.MaxUint64, Phase: least},
	}
	for _, n := range []int{0, 1, 2, 3, 5, 12, 13, 32, 63, 64} {
		for _, phase := range []int{-1, -2, -4, 4, 5, 6, 8, 1 << 32, least, great, great - 1} {
			l = append(l, api.Pauli{N: n, Phase: phase})
		}
		for q := n; q < 64; q += 7 {
			l = append(l, api.Pauli{N: n, X: 1 << q}, api.Pauli{N: n, Z: 1 << q}, api.Pauli{N: n, X: 1 << q, Z: 1 << q, Phase: 2})
		}
	}
	return l
}

// noStates are rows that are none.
func noStates() [][]complex128 {
	return [][]complex128{
		nil, {}, make([]complex128, 0, 1), {1, 0, 0}, make([]complex128, 3, 4), make([]complex128, 5, 8), make([]complex128, 12),
		make([]complex128, 4095, 4096), make([]complex128, 4097), make([]complex128, 6144), make([]complex128, 8192), make([]complex128, 1<<16),
	}
}

// oddFloat is one as they come: noughts with a sign, infinities and NaN, the least and the greatest ones among them.
func oddFloat(chance *rand.Rand) float64 {
	l := []float64{
		0, minus0, 1, -1, 0.5, -3, 0.1, 1 + 0x1p-30, 1 << 53, -1e16, 1e200, -1e-200,
		tiny, -tiny, 3 * tiny, math.MaxFloat64, -math.MaxFloat64, inf, -inf, nan,
	}
	return l[chance.Intn(len(l))]
}

// tameFloat is a finite one, of which every fourth is a nought, with a sign or without.
func tameFloat(chance *rand.Rand) float64 {
	if chance.Intn(4) == 0 {
		return math.Copysign(0, chance.Float64()-0.5)
	}
	return chance.NormFloat64()
}

func floats(chance *rand.Rand, n int, draw func(chance *rand.Rand) float64) []float64 {
	l := make([]float64, n)
	for k := range l {
		l[k] = draw(chance)
	}
	return l
}

func amplitudes(chance *rand.Rand, n int, draw func(chance *rand.Rand) float64) []complex128 {
	l := make([]complex128, 1<<n)
	for k := range l {
		l[k] = complex(draw(chance), draw(chance))
	}
	return l
}

// exact is an exact state of n qubits with at most so many halves, whose Weight is at most 1: many amplitudes that are small, or few that are great.
func exact(chance *rand.Rand, n, halves int) []complex128 {
	s := make([]complex128, 1<<n)
	if chance.Intn(8) == 0 {
		s[chance.Intn(len(s))] = powers[chance.Intn(4)]
		return made(chance, s, halves)
	}
	few := 1 + chance.Intn(len(s))
	unit := math.Ldexp(1, -halves)
	most := int(math.Sqrt(0.5/float64(few)) / unit)
	part := func() float64 {
		if chance.Intn(3) == 0 {
			return unit * float64(most*(chance.Intn(3)-1))
		}
		return unit * float64(chance.Intn(2*most+1)-most)
	}
	for _, k := range chance.Perm(len(s))[:few] {
		s[k] = complex(part(), part())
	}
	return s
}

// made is what gates at chance make of a state, of which at most so many halve.
func made(chance *rand.Rand, s []complex128, halves int) []complex128 {
	n := qubitsOf(len(s))
	w := wish{qubits: n, ops: 4 * n, halves: halves}
	for _, op := range w.drawn(chance).Ops {
		if op.Kind == api.OpGate {
			s, _ = apply.Gate(s, op.Gate, op.Qubits)
		}
	}
	for k, z := range s {
		s[k] = complex(unsigned(real(z)), unsigned(imag(z)))
	}
	return s
}

// Operations in short.

func do(k api.GateKind, qubits ...int) api.Op {
	return api.Op{Kind: api.OpGate, Gate: k, Qubits: qubits, If: -1}
}

func when(bit, value int, op api.Op) api.Op {
	op.If, op.When = bit, value
	return op
}

func measure(qubit, bit int) api.Op {
	return api.Op{Kind: api.OpMeasure, Qubits: []int{qubit}, Bit: bit, If: -1}
}

func reset(qubit int) api.Op {
	return api.Op{Kind: api.OpReset, Qubits: []int{qubit}, If: -1}
}

func barrier(qubits ...int) api.Op {
	return api.Op{Kind: api.OpBarrier, Qubits: qubits, If: -1}
}

func of(qubits, bits int, ops ...api.Op) api.Circuit {
	return api.Circuit{Qubits: qubits, Bits: bits, Ops: ops}
}

// times is a row of operations so many times.
func times(n int, ops ...api.Op) []api.Op { return slices.Repeat(ops, n) }

// gates reads a circuit of so many qubits, as the chapter's examples write them: "s 0; cx 0 1; barrier 1".
func gates(qubits int, text string) api.Circuit {
	c := of(qubits, 0)
	for part := range strings.SplitSeq(text, ";") {
		if words := strings.Fields(part); len(words) > 0 {
			c.Ops = append(c.Ops, opOf(words))
		}
	}
	return c
}

func opOf(words []string) api.Op {
	var l []int
	for _, word := range words[1:] {
		q, err := strconv.Atoi(word)
		if err != nil {
			panic(word)
		}
		l = append(l, q)
	}
	if words[0] == "barrier" {
		return barrier(l...)
	}
	k, e := gate.Of(words[0])
	if e != api.OK {
		panic(words[0])
	}
	return do(k, l...)
}

// wish is what a circuit at chance may have; halves that are used up are not drawn again.
type wish struct {
	qubits, ops, halves int
	clifford            bool // gates of Clifford kinds alone
}

// drawn is a circuit at chance, of just so many qubits and operations.
func (w wish) drawn(chance *rand.Rand) api.Circuit {
	c := of(w.qubits, chance.Intn(3))
	for range w.ops {
		if w.qubits == 0 {
			break
		}
		mixed := chance.Perm(w.qubits)
		if chance.Intn(12) == 0 {
			c.Ops = append(c.Ops, barrier(mixed[:1+chance.Intn(w.qubits)]...))
			continue
		}
		c.Ops = append(c.Ops, w.gate(chance, mixed))
	}
	return c
}

// gate is one on some of these qubits.
func (w *wish) gate(chance *rand.Rand, qubits []int) api.Op {
	for {
		k := gate.Kinds()[chance.Intn(len(gate.Kinds()))]
		if gate.Arity(k) > len(qubits) || gate.Halving(k) && w.halves == 0 || w.clifford && !gate.Clifford(k) {
			continue
		}
		if gate.Halving(k) {
			w.halves--
		}
		return do(k, slices.Clone(qubits[:gate.Arity(k)])...)
	}
}

// wrongCircuits may not be.
func wrongCircuits() []api.Circuit {
	return []api.Circuit{
		of(-1, 0), of(65, 0), of(1, -1), of(1, 65), of(great, great), of(least, 0), of(64, 65), of(65, 64),
		of(1, 1, times(4097, do(api.GateX, 0))...), of(1, 1, times(4097, barrier(0))...),
		of(1, 1, do(api.GateX, 1)), of(1, 1, do(api.GateX, -1)), of(1, 1, do(21, 0)), of(1, 1, do(0, 0)), of(1, 1, do(-1, 0)), of(1, 1, do(great, 0)), of(1, 1, do(least, 0)),
		of(2, 1, do(api.GateCX, 0)), of(2, 1, do(api.GateCX, 1, 1)), of(2, 1, do(api.GateX, 0, 1)), of(1, 1, do(api.GateY)), of(3, 0, do(api.GateCCZ, 0, 1)),
		of(1, 1, do(api.GateX, 0), do(api.GateX, 64)), of(64, 1, do(api.GateX, 64)), of(64, 1, do(api.GateX, 63), do(api.GateX, great)),
		of(1, 1, measure(1, 0)), of(1, 1, measure(0, 1)), of(1, 0, measure(0, 0)), of(1, 64, measure(0, 64)), of(1, 1, measure(0, -1)), of(1, 1, reset(1)), of(1, 1, barrier()), of(2, 1, barrier(0, 0)), of(2, 1, barrier(2)),
		of(1, 1, when(1, 0, do(api.GateX, 0))), of(1, 1, when(0, 2, do(api.GateX, 0))), of(1, 1, when(-1, 1, do(api.GateX, 0))), of(1, 1, when(-2, 0, do(api.GateX, 0))), of(1, 1, when(0, 0, barrier(0))),
		of(1, 1, api.Op{}), of(1, 1, api.Op{Kind: 5, Qubits: []int{0}, If: -1}), of(0, 0, do(api.GateX, 0)),
		of(1, 1, api.Op{Kind: api.OpBarrier, Gate: api.GateX, Qubits: []int{0}, If: -1}), of(1, 1, api.Op{Kind: api.OpGate, Gate: api.GateX, Qubits: []int{0}, Bit: 1, If: -1}),
	}
}

// deep is a copy of a circuit by hand.
func deep(c api.Circuit) api.Circuit {
	d := of(c.Qubits, c.Bits)
	for _, op := range c.Ops {
		op.Qubits = append([]int{}, op.Qubits...)
		d.Ops = append(d.Ops, op)
	}
	return d
}

func sameCircuit(a, b api.Circuit) bool {
	return a.Qubits == b.Qubits && a.Bits == b.Bits && slices.EqualFunc(a.Ops, b.Ops, func(x, y api.Op) bool {
		return x.Kind == y.Kind && x.Gate == y.Gate && slices.Equal(x.Qubits, y.Qubits) && x.Bit == y.Bit && x.If == y.If && x.When == y.When
	})
}

// sameFloat tells whether floats have the same bits, two NaNs counting as the same.
func sameFloat(x, y float64) bool {
	return math.Float64bits(x) == math.Float64bits(y) || x != x && y != y
}

func sameNumber(a, b complex128) bool {
	return sameFloat(real(a), real(b)) && sameFloat(imag(a), imag(b))
}

func sameTerm(a, b api.Term) bool { return sameFloat(a.Coef, b.Coef) && a.P == b.P }

// kept takes a list that was handed in to be as it was.
func kept[T any](t *testing.T, what string, l, ahead []T, same func(a, b T) bool) {
	t.Helper()
	if !slices.EqualFunc(l, ahead, same) {
		t.Fatalf("%s: what was handed in was changed", what)
	}
}

// told is what a call answers: numbers, and rows of numbers.
type told struct {
	z       complex128
	x, y    float64
	numbers []complex128
	floats  []float64
	rows    int
}

// same compares to the bit.
func (a told) same(b told) bool {
	return sameNumber(a.z, b.z) && sameFloat(a.x, b.x) && sameFloat(a.y, b.y) && a.rows == b.rows &&
		slices.EqualFunc(a.numbers, b.numbers, sameNumber) && slices.EqualFunc(a.floats, b.floats, sameFloat)
}
