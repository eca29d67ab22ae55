package run_test

import (
	"math"
	"math/rand"
	"slices"
	"testing"

	"phasor/api"
	"phasor/gate"
	"phasor/run"
)

const (
	least = math.MinInt
	great = math.MaxInt
	tiny  = math.SmallestNonzeroFloat64
	below = 1 - 0x1p-53 // the greatest float below 1
)

var (
	nan    = math.NaN()
	inf    = math.Inf(1)
	minus0 = math.Copysign(0, -1)
)

// Operations in short.

func do(k api.GateKind, qubits ...int) api.Op {
	return api.Op{Kind: api.OpGate, Gate: k, Qubits: qubits, If: -1}
}

func when(bit, value int, op api.Op) api.Op {
	op.If, op.When = bit, value
	return op
}

func measure(qubit, bit int) api.Op {
	return api.Op{Kind: api.OpMeasure, Qubits: []int{qubit}, Bit: bit, If: -1}
}

func reset(qubit int) api.Op {
	return api.Op{Kind: api.OpReset, Qubits: []int{qubit}, If: -1}
}

func barrier(qubits ...int) api.Op {
	return api.Op{Kind: api.OpBarrier, Qubits: qubits, If: -1}
}

func of(qubits, bits int, ops ...api.Op) api.Circuit {
	return api.Circuit{Qubits: qubits, Bits: bits, Ops: ops}
}

// repeated is a row of operations so many times.
func repeated(n int, ops ...api.Op) []api.Op {
	var l []api.Op
	for range n {
		l = append(l, ops...)
	}
	return l
}

// bell is the chapter's circuit Q.
func bell() api.Circuit {
	return of(2, 2, do(api.GateW, 0), do(api.GateCX, 0, 1), measure(0, 0), measure(1, 1))
}

// wish is what a circuit at chance may have at most; a count that is used up is not drawn again.
type wish struct {
	qubits, bits, ops, halves, measures int
}

// drawn is a circuit at chance, of just so many qubits, bits and operations.
func (w wish) drawn(chance *rand.Rand) api.Circuit {
	c := of(w.qubits, w.bits)
	for range w.ops {
		c.Ops = append(c.Ops, w.op(chance))
	}
	return c
}

func (w *wish) op(chance *rand.Rand) api.Op {
	mixed := chance.Perm(w.qubits)
	switch draw := chance.Intn(12); {
	case draw < 2 && w.measures > 0 && w.bits > 0:
		w.measures--
		return measure(mixed[0], chance.Intn(w.bits))
	case draw == 2 && w.measures > 0:
		w.measures--
		return reset(mixed[0])
	case draw == 3:
		return barrier(mixed[:1+chance.Intn(w.qubits)]...)
	}
	op := w.gate(chance, mixed)
	if w.bits > 0 && chance.Intn(3) == 0 {
		return when(chance.Intn(w.bits), chance.Intn(2), op)
	}
	return op
}

// gate is one on some of these qubits; halving ones come oftener than they would, as long as they may.
func (w *wish) gate(chance *rand.Rand, qubits []int) api.Op {
	for {
		k := api.GateKind(1 + chance.Intn(20))
		if chance.Intn(3) == 0 {
			k = []api.GateKind{api.GateV, api.GateW, api.GateHH}[chance.Intn(3)]
		}
		if gate.Arity(k) > len(qubits) || gate.Halving(k) && w.halves == 0 {
			continue
		}
		if gate.Halving(k) {
			w.halves--
		}
		var on []int
		for _, j := range chance.Perm(len(qubits))[:gate.Arity(k)] {
			on = append(on, qubits[j])
		}
		return do(k, on...)
	}
}

// numbers are so many from 0 to below 1.
func numbers(chance *rand.Rand, n int) []float64 {
	l := make([]float64, n)
	for i := range l {
		l[i] = chance.Float64()
		if chance.Intn(4) == 0 {
			l[i] = []float64{0, minus0, tiny, 0.25, 0.5, 0.75, below}[chance.Intn(7)]
		}
	}
	return l
}

// refusedNumbers are those that no measurement takes.
func refusedNumbers() []float64 {
	return []float64{1, math.Nextafter(1, 2), 2, -tiny, -0.5, -1, inf, -inf, nan, math.MaxFloat64}
}

// rows of amplitudes: odd is of floats as they come, noughts with a sign, infinities and NaN among them; tame is one without the last two.
func odd(chance *rand.Rand, n int) []complex128 {
	l := []float64{0, minus0, 1, -1, 0.5, -3, 0.1, 1 + 0x1p-30, 1e200, -1e-200, tiny, -math.MaxFloat64, inf, -inf, nan}
	return amplitudes(n, func() float64 { return l[chance.Intn(len(l))] })
}

func tame(chance *rand.Rand, n int) []complex128 {
	return amplitudes(n, func() float64 {
		if chance.Intn(4) == 0 {
			return math.Copysign(0, chance.Float64()-0.5)
		}
		return chance.NormFloat64()
	})
}

func amplitudes(n int, draw func() float64) []complex128 {
	l := make([]complex128, n)
	for k := range l {
		l[k] = complex(draw(), draw())
	}
	return l
}

// someBits is a row of noughts and ones.
func someBits(chance *rand.Rand, n int) []int {
	l := make([]int, n)
	for i := range l {
		l[i] = chance.Intn(2)
	}
	return l
}

// basis is a basis state, by hand.
func basis(n, k int) []complex128 {
	s := make([]complex128, 1<<n)
	s[k] = 1
	return s
}

// deep is a copy by hand.
func deep(c api.Circuit) api.Circuit {
	d := of(c.Qubits, c.Bits)
	for _, op := range c.Ops {
		d.Ops = append(d.Ops, deepOp(op))
	}
	return d
}

func deepOp(op api.Op) api.Op {
	op.Qubits = append([]int{}, op.Qubits...)
	return op
}

// wrongCircuits may not be.
func wrongCircuits() []api.Circuit {
	return []api.Circuit{
		of(-1, 0), of(65, 0), of(1, -1), of(1, 65), of(great, great), of(least, 0),
		of(1, 1, repeated(4097, do(api.GateX, 0))...),
		of(1, 1, do(api.GateX, 1)), of(1, 1, do(api.GateX, -1)), of(1, 1, do(21, 0)), of(1, 1, do(0, 0)), of(2, 1, do(api.GateCX, 0)), of(2, 1, do(api.GateCX, 1, 1)),
		of(1, 1, measure(1, 0)), of(1, 1, measure(0, 1)), of(1, 0, measure(0, 0)), of(1, 1, reset(1)), of(1, 1, barrier()), of(2, 1, barrier(0, 0)),
		of(1, 1, when(1, 0, do(api.GateX, 0))), of(1, 1, when(0, 2, do(api.GateX, 0))), of(1, 1, when(-1, 1, do(api.GateX, 0))), of(1, 1, when(0, 0, measure(0, 0))), of(1, 1, when(0, 0, reset(0))),
		of(1, 1, api.Op{}), of(1, 1, api.Op{Kind: 5, Qubits: []int{0}, If: -1}), of(13, 1, do(api.GateX, 13)), of(0, 0, do(api.GateX, 0)),
	}
}

// wideCircuits may be, but have too many qubits for a state.
func wideCircuits() []api.Circuit {
	return []api.Circuit{of(13, 0), of(13, 64, do(api.GateX, 12), measure(12, 63)), of(64, 1, measure(63, 0)), of(14, 1, repeated(13, measure(0, 0))...)}
}

// sameFloat tells whether floats have the same bits, two NaNs counting as the same.
func sameFloat(x, y float64) bool {
	return math.Float64bits(x) == math.Float64bits(y) || x != x && y != y
}

func sameNumber(a, b complex128) bool {
	return sameFloat(real(a), real(b)) && sameFloat(imag(a), imag(b))
}

func sameState(a, b []complex128) bool { return slices.EqualFunc(a, b, sameNumber) }

func sameOutcome(a, b api.Outcome) bool {
	return a.Op == b.Op && a.Qubit == b.Qubit && a.Bit == b.Bit && a.Value == b.Value && sameFloat(a.Zero, b.Zero) && sameFloat(a.One, b.One)
}

func sameLog(a, b []api.Outcome) bool { return slices.EqualFunc(a, b, sameOutcome) }

func sameOp(a, b api.Op) bool {
	return a.Kind == b.Kind && a.Gate == b.Gate && slices.Equal(a.Qubits, b.Qubits) && a.Bit == b.Bit && a.If == b.If && a.When == b.When
}

func sameBranch(a, b api.Branch) bool {
	return slices.Equal(a.Values, b.Values) && sameFloat(a.Weight, b.Weight) && slices.Equal(a.Bits, b.Bits) && sameState(a.State, b.State)
}

// machine is one that New gives.
func machine(t *testing.T, c api.Circuit) *run.Machine {
	t.Helper()
	m, e := run.New(c)
	if e != api.OK || m == nil {
		t.Fatal("New:", e)
	}
	return m
}

// from is one that From gives.
func from(t *testing.T, c api.Circuit, s []complex128, bits []int) *run.Machine {
	t.Helper()
	m, e := run.From(c, s, bits)
	if e != api.OK || m == nil {
		t.Fatal("From:", e)
	}
	return m
}

// come is what a run of a circuit comes to.
func come(t *testing.T, c api.Circuit, us ...float64) api.Result {
	t.Helper()
	x, e := run.Run(c, us)
	if e != api.OK {
		t.Fatal("Run:", e)
	}
	return x
}

// wantResult compares all that a run came to.
func wantResult(t *testing.T, what string, got, wanted api.Result) {
	t.Helper()
	if got.Used != wanted.Used || !slices.Equal(got.Bits, wanted.Bits) || !sameLog(got.Log, wanted.Log) || !sameState(got.State, wanted.State) {
		t.Errorf("%s: used %d, bits %v, log %v, state %v, not %d, %v, %v, %v", what, got.Used, got.Bits, got.Log, got.State, wanted.Used, wanted.Bits, wanted.Log, wanted.State)
	}
}

// wantNothing takes a result beside an error to be of nothing.
func wantNothing(t *testing.T, what string, x api.Result, e, wanted api.Errno) {
	t.Helper()
	if e != wanted || x.Used != 0 || len(x.Bits) != 0 || len(x.Log) != 0 || len(x.State) != 0 {
		t.Errorf("%s: %v, error %d, not %d", what, x, e, wanted)
	}
}
