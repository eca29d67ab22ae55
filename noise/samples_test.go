package noise_test

import (
	"math"
	"math/rand"
	"slices"
	"strconv"
	"strings"
	"testing"

	"phasor/api"
	"phasor/circuit"
	"phasor/gate"
	"phasor/pauli"
)

const (
	least = math.MinInt
	great = math.MaxInt
	tiny  = math.SmallestNonzeroFloat64
	below = 1 - 0x1p-53 // the greatest float below 1
)

var (
	nan    = math.NaN()
	inf    = math.Inf(1)
	minus0 = math.Copysign(0, -1)
)

// Operations in short.

func do(k api.GateKind, qubits ...int) api.Op {
	return api.Op{Kind: api.OpGate, Gate: k, Qubits: qubits, If: -1}
}

func when(bit, value int, op api.Op) api.Op {
	op.If, op.When = bit, value
	return op
}

func measure(qubit, bit int) api.Op {
	return api.Op{Kind: api.OpMeasure, Qubits: []int{qubit}, Bit: bit, If: -1}
}

func reset(qubit int) api.Op {
	return api.Op{Kind: api.OpReset, Qubits: []int{qubit}, If: -1}
}

func barrier(qubits ...int) api.Op {
	return api.Op{Kind: api.OpBarrier, Qubits: qubits, If: -1}
}

func of(qubits, bits int, ops ...api.Op) api.Circuit {
	return api.Circuit{Qubits: qubits, Bits: bits, Ops: ops}
}

// times is a row of operations so many times.
func times(n int, ops ...api.Op) []api.Op { return slices.Repeat(ops, n) }

// written is a circuit of operations as the chapter's examples write them: "x 0; measure 0 -> 1; if 1 0 cx 0 1".
func written(t *testing.T, qubits, bits int, text string) api.Circuit {
	t.Helper()
	c := of(qubits, bits)
	for part := range strings.SplitSeq(text, ";") {
		if words := strings.Fields(strings.ReplaceAll(part, "->", "")); len(words) > 0 {
			c.Ops = append(c.Ops, opOf(t, words))
		}
	}
	if _, e := circuit.Check(c); e != api.OK {
		t.Fatal("may not be:", text)
	}
	return c
}

func opOf(t *testing.T, words []string) api.Op {
	t.Helper()
	if words[0] == "if" {
		l := ints(t, words[1:3])
		return when(l[0], l[1], opOf(t, words[3:]))
	}
	l := ints(t, words[1:])
	switch words[0] {
	case "measure":
		return measure(l[0], l[1])
	case "reset":
		return reset(l[0])
	case "barrier":
		return barrier(l...)
	}
	k, e := gate.Of(words[0])
	if e != api.OK {
		t.Fatal("no gate:", words[0])
	}
	return do(k, l...)
}

func ints(t *testing.T, words []string) []int {
	t.Helper()
	l := []int{}
	for _, s := range words {
		n, err := strconv.Atoi(s)
		if err != nil {
			t.Fatal(err)
		}
		l = append(l, n)
	}
	return l
}

// read is a string of a text.
func read(text string) api.Pauli {
	p, e := pauli.Parse(text)
	if e != api.OK {
		panic(text)
	}
	return p
}

// slipsOf reads slips: "0 +XI, 2 -iZY".
func slipsOf(t *testing.T, text string) []api.Slip {
	t.Helper()
	var l []api.Slip
	for part := range strings.SplitSeq(text, ",") {
		if words := strings.Fields(part); len(words) > 0 {
			l = append(l, api.Slip{After: ints(t, words[:1])[0], P: read(words[1])})
		}
	}
	return l
}

// frame is one of a text and of which bits and outcomes are turned: "+XX", "01", "1".
func frame(text, bits, log string) api.Frame {
	return api.Frame{P: read(text), Bits: marked(bits), Log: marked(log)}
}

func marked(s string) []bool {
	l := []bool{}
	for _, r := range s {
		l = append(l, r == '1')
	}
	return l
}

// wish is what a circuit at chance may have at most; a count that is used up is not drawn again. One that carries has what frames can be carried through.
type wish struct {
	qubits, bits, ops, halves, measures int
	carries                             bool
}

// drawn is a circuit at chance, of just so many qubits, bits and operations.
func (w wish) drawn(chance *rand.Rand) api.Circuit {
	c := of(w.qubits, w.bits)
	for range w.ops {
		if w.qubits > 0 {
			c.Ops = append(c.Ops, w.op(chance))
		}
	}
	return c
}

func (w *wish) op(chance *rand.Rand) api.Op {
	mixed := chance.Perm(w.qubits)
	switch draw := chance.Intn(12); {
	case draw < 2 && w.measures > 0 && w.bits > 0:
		w.measures--
		return measure(mixed[0], chance.Intn(w.bits))
	case draw == 2 && w.measures > 0:
		w.measures--
		return reset(mixed[0])
	case draw == 3:
		return barrier(slices.Clone(mixed[:1+chance.Intn(w.qubits)])...)
	}
	if w.bits == 0 || chance.Intn(4) > 0 {
		return w.gate(chance, mixed)
	}
	op := w.gate(chance, mixed)
	if w.carries {
		op = do(api.GateI+api.GateKind(chance.Intn(4)), mixed[0])
	}
	return when(chance.Intn(w.bits), chance.Intn(2), op)
}

// gate is one on the first of these qubits; halving ones come oftener than they would, as long as they may.
func (w *wish) gate(chance *rand.Rand, qubits []int) api.Op {
	for {
		k := api.GateKind(1 + chance.Intn(20))
		if chance.Intn(3) == 0 {
			k = []api.GateKind{api.GateV, api.GateW, api.GateHH}[chance.Intn(3)]
		}
		if gate.Arity(k) > len(qubits) || gate.Halving(k) && w.halves == 0 || w.carries && !gate.Clifford(k) {
			continue
		}
		if gate.Halving(k) {
			w.halves--
		}
		return do(k, slices.Clone(qubits[:gate.Arity(k)])...)
	}
}

// anyString is one of n qubits at chance; some have few letters.
func anyString(chance *rand.Rand, n int) api.Pauli {
	all := uint64(1)<<n - 1
	p := api.Pauli{N: n, X: chance.Uint64() & all, Z: chance.Uint64() & all, Phase: chance.Intn(4)}
	if chance.Intn(2) == 0 {
		few := chance.Uint64() & chance.Uint64() & chance.Uint64()
		p.X, p.Z = p.X&few, p.Z&few
	}
	return p
}

// anySlips are so many that fit a circuit, at chance.
func anySlips(chance *rand.Rand, c api.Circuit, count int) []api.Slip {
	var at []int
	for range count {
		at = append(at, chance.Intn(len(c.Ops)+1))
	}
	slices.Sort(at)
	l := []api.Slip{}
	for _, after := range at {
		l = append(l, api.Slip{After: after, P: anyString(chance, c.Qubits)})
	}
	return l
}

// numbers are so many from 0 to below 1.
func numbers(chance *rand.Rand, n int) []float64 {
	l := make([]float64, n)
	for i := range l {
		l[i] = chance.Float64()
		if chance.Intn(4) == 0 {
			l[i] = []float64{0, minus0, tiny, 0.25, 0.5 - 0x1p-54, 0.5, 0.75, below}[chance.Intn(8)]
		}
	}
	return l
}

// refusedNumbers are not from 0 to below 1.
func refusedNumbers() []float64 {
	return []float64{1, math.Nextafter(1, 2), 2, -tiny, -0.5, -1, inf, -inf, nan, math.MaxFloat64, -math.MaxFloat64}
}

// measurements counts what comes to an outcome.
func measurements(c api.Circuit) int {
	n := 0
	for _, op := range c.Ops {
		if op.Kind == api.OpMeasure || op.Kind == api.OpReset {
			n++
		}
	}
	return n
}

// wrongCircuits may not be; some of them have, besides, gates through which no frame can be carried.
func wrongCircuits() []api.Circuit {
	return []api.Circuit{
		of(-1, 0), of(65, 0), of(1, -1), of(1, 65), of(great, great), of(least, 0), of(64, 65), of(65, 64),
		of(1, 1, times(4097, do(api.GateX, 0))...), of(1, 1, times(4097, barrier(0))...), of(3, 0, times(4097, do(api.GateCCX, 0, 1, 2))...),
		of(1, 1, do(api.GateX, 1)), of(1, 1, do(api.GateX, -1)), of(1, 1, do(21, 0)), of(1, 1, do(0, 0)), of(1, 1, do(-1, 0)), of(1, 1, do(great, 0)), of(1, 1, do(least, 0)), of(2, 1, do(api.GateCX, 0)), of(2, 1, do(api.GateCX, 1, 1)),
		of(1, 1, measure(1, 0)), of(1, 1, measure(0, 1)), of(1, 0, measure(0, 0)), of(1, 1, measure(0, -1)), of(1, 1, reset(1)), of(1, 1, barrier()), of(2, 1, barrier(0, 0)),
		of(1, 1, when(1, 0, do(api.GateX, 0))), of(1, 1, when(0, 2, do(api.GateX, 0))), of(1, 1, when(-1, 1, do(api.GateX, 0))), of(1, 1, when(-2, 0, do(api.GateX, 0))), of(1, 1, when(0, 0, measure(0, 0))), of(1, 1, when(0, 0, reset(0))), of(1, 64, when(64, 0, do(api.GateX, 0))),
		of(1, 1, api.Op{}), of(1, 1, api.Op{Kind: 5, Qubits: []int{0}, If: -1}), of(0, 0, do(api.GateX, 0)), of(64, 1, do(api.GateX, 64)),
		of(1, 1, api.Op{Kind: api.OpBarrier, Gate: api.GateX, Qubits: []int{0}, If: -1}), of(1, 1, api.Op{Kind: api.OpGate, Gate: api.GateX, Qubits: []int{0}, Bit: 1, If: -1}),
		of(3, 0, do(api.GateCCX, 0, 1, 2), do(api.GateX, 3)), of(2, 1, when(0, 1, do(api.GateCX, 0, 1)), reset(2)),
	}
}

// stuckCircuits may be, but no frame can be carried through them.
func stuckCircuits() []api.Circuit {
	var l []api.Circuit
	for _, k := range gate.Kinds() {
		qubits := []int{2, 0, 1}[:gate.Arity(k)]
		if !gate.Clifford(k) {
			l = append(l, of(3, 0, do(k, qubits...)), of(64, 0, append(times(4095, do(api.GateX, 63)), do(k, qubits...))...))
		}
		if k > api.GateZ {
			for value := range 2 {
				l = append(l,
					of(3, 1, when(0, value, do(k, qubits...))),
					of(3, 64, measure(0, 0), do(api.GateS, 0), when(63, value, do(k, qubits...)), reset(1)))
			}
		}
	}
	return l
}

// wrongStrings do not stand for a circuit of n qubits: such as are not right, and right ones of other numbers.
func wrongStrings(n int) []api.Pauli {
	l := []api.Pauli{{N: n - 1}, {N: n + 1}, {N: -1}, {N: -n - 1}, {N: 65}, {N: 128}, {N: great}, {N: least}, {N: least, X: math.MaxUint64, Phase: least}}
	for _, phase := range []int{-1, -4, 4, 5, 8, least, great} {
		l = append(l, api.Pauli{N: n, Phase: phase})
	}
	for q := n; q < 64; q += 7 {
		l = append(l, api.Pauli{N: n, X: 1 << q}, api.Pauli{N: n, Z: 1 << q}, api.Pauli{N: n, X: 1 << q, Z: 1 << q, Phase: 2})
	}
	return l
}

// wrongSlips do not fit a circuit: one of them is at fault, or the row of them is.
func wrongSlips(c api.Circuit) [][]api.Slip {
	last, fits := len(c.Ops), api.Pauli{N: c.Qubits}
	at := func(l ...int) []api.Slip {
		var slips []api.Slip
		for _, after := range l {
			slips = append(slips, api.Slip{After: after, P: fits})
		}
		return slips
	}
	l := [][]api.Slip{at(-1), at(last + 1), at(great), at(least), at(0, 0, -1), at(-1, 0), at(0, last+1), at(last, last, last+1), at(least, 0, last), at(0, last, great)}
	for k := 1; k <= last; k++ {
		l = append(l, at(k, k-1), at(k, 0), at(0, k, k, k-1, k))
	}
	for _, p := range wrongStrings(c.Qubits) {
		wrong := api.Slip{P: p}
		l = append(l, []api.Slip{wrong}, append(at(0, 0), wrong), append([]api.Slip{wrong}, at(0, last)...), append(at(0), api.Slip{After: last, P: p}))
	}
	return l
}

// oddFloat is one as they come: noughts with a sign, infinities and NaN, the least and the greatest ones among them.
func oddFloat(chance *rand.Rand) float64 {
	l := []float64{
		0, minus0, 1, -1, 0.5, -3, 0.1, 1 + 0x1p-30, 1 << 53, -1e16, 1e200, -1e-200,
		tiny, -tiny, 3 * tiny, math.MaxFloat64, -math.MaxFloat64, inf, -inf, nan,
	}
	return l[chance.Intn(len(l))]
}

// tameFloat is a finite one, of which every fourth is a nought, with a sign or without.
func tameFloat(chance *rand.Rand) float64 {
	if chance.Intn(4) == 0 {
		return math.Copysign(0, chance.Float64()-0.5)
	}
	return chance.NormFloat64()
}

// roundFloat is a multiple of 2^-20 from -1 to 1.
func roundFloat(chance *rand.Rand) float64 {
	switch chance.Intn(6) {
	case 0:
		return float64(chance.Intn(3) - 1)
	case 1:
		return float64(chance.Intn(5)-2) / (1 << 20)
	}
	return float64(chance.Intn(1<<21+1)-1<<20) / (1 << 20)
}

// anyMatrix is one of n qubits.
func anyMatrix(chance *rand.Rand, n int, draw func(chance *rand.Rand) float64) api.Matrix {
	m := blank(1 << n)
	for k := range m.E {
		m.E[k] = complex(draw(chance), draw(chance))
	}
	return m
}

// blank is of noughts.
func blank(n int) api.Matrix { return api.Matrix{N: n, E: make([]complex128, n*n)} }

// rows is a matrix of its entries, row by row.
func rows(l ...complex128) api.Matrix {
	return api.Matrix{N: int(math.Sqrt(float64(len(l)))), E: l}
}

// wrongMatrices are not right, or of a number of rows that is no power of two.
func wrongMatrices() []api.Matrix {
	l := []api.Matrix{
		{}, {N: 0, E: make([]complex128, 1)}, {N: 1}, {N: 1, E: make([]complex128, 2)}, {N: 2, E: make([]complex128, 3)}, {N: 2, E: make([]complex128, 5)}, {N: 4, E: make([]complex128, 8)}, {N: 2, E: make([]complex128, 3, 4)}, {N: 2, E: make([]complex128, 16)}, {N: 64, E: make([]complex128, 4095)}, {N: 64},
		{N: -1, E: make([]complex128, 1)}, {N: -2, E: make([]complex128, 4)}, {N: 1 << 32}, {N: great, E: make([]complex128, 1)}, {N: least}, {N: -1 << 32}, {N: 128, E: make([]complex128, 1<<14)},
	}
	for n := range 70 {
		if n > 64 || n&(n-1) != 0 {
			l = append(l, blank(n))
		}
	}
	return l
}

// kinds are those of channels.
func kinds() []api.Channel {
	return []api.Channel{api.ChannelX, api.ChannelZ, api.ChannelY, api.ChannelReset, api.ChannelMix}
}

// deep is a copy by hand.
func deep(c api.Circuit) api.Circuit {
	d := of(c.Qubits, c.Bits)
	for _, op := range c.Ops {
		op.Qubits = append([]int{}, op.Qubits...)
		d.Ops = append(d.Ops, op)
	}
	return d
}

func sameOp(a, b api.Op) bool {
	return a.Kind == b.Kind && a.Gate == b.Gate && slices.Equal(a.Qubits, b.Qubits) && a.Bit == b.Bit && a.If == b.If && a.When == b.When
}

func sameCircuit(a, b api.Circuit) bool {
	return a.Qubits == b.Qubits && a.Bits == b.Bits && slices.EqualFunc(a.Ops, b.Ops, sameOp)
}

func sameFrame(a, b api.Frame) bool {
	return a.P == b.P && slices.Equal(a.Bits, b.Bits) && slices.Equal(a.Log, b.Log)
}

// sameFloat tells whether floats have the same bits, two NaNs counting as the same.
func sameFloat(x, y float64) bool {
	return math.Float64bits(x) == math.Float64bits(y) || x != x && y != y
}

func sameNumber(a, b complex128) bool {
	return sameFloat(real(a), real(b)) && sameFloat(imag(a), imag(b))
}

func sameMatrix(a, b api.Matrix) bool {
	return a.N == b.N && slices.EqualFunc(a.E, b.E, sameNumber)
}

// equal tells whether matrices are so by ==.
func equal(a, b api.Matrix) bool { return a.N == b.N && slices.Equal(a.E, b.E) }
