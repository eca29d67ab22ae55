package fuse_test

import (
	"math"
	"math/rand"
	"slices"
	"testing"

	"phasor/api"
	"phasor/fuse"
	"phasor/gate"
)

const (
	least = math.MinInt
	great = math.MaxInt
	tiny  = math.SmallestNonzeroFloat64
	below = 1 - 0x1p-53 // the greatest float below 1
)

var (
	nan    = math.NaN()
	inf    = math.Inf(1)
	minus0 = math.Copysign(0, -1)
)

// Operations in short.

func do(k api.GateKind, qubits ...int) api.Op {
	return api.Op{Kind: api.OpGate, Gate: k, Qubits: qubits, If: -1}
}

func when(bit, value int, op api.Op) api.Op {
	op.If, op.When = bit, value
	return op
}

func measure(qubit, bit int) api.Op {
	return api.Op{Kind: api.OpMeasure, Qubits: []int{qubit}, Bit: bit, If: -1}
}

func reset(qubit int) api.Op {
	return api.Op{Kind: api.OpReset, Qubits: []int{qubit}, If: -1}
}

func barrier(qubits ...int) api.Op {
	return api.Op{Kind: api.OpBarrier, Qubits: qubits, If: -1}
}

func of(qubits, bits int, ops ...api.Op) api.Circuit {
	return api.Circuit{Qubits: qubits, Bits: bits, Ops: ops}
}

// repeated is a row of operations so many times.
func repeated(n int, ops ...api.Op) []api.Op {
	var l []api.Op
	for range n {
		l = append(l, ops...)
	}
	return l
}

// wish is what a circuit at chance may have at most; a count that is used up is not drawn again.
type wish struct {
	qubits, bits, ops, halves, measures int
}

// drawn is a circuit at chance, of just so many qubits, bits and operations.
func (w wish) drawn(chance *rand.Rand) api.Circuit {
	c := of(w.qubits, w.bits)
	for range w.ops {
		c.Ops = append(c.Ops, w.op(chance))
	}
	return c
}

// row is one of gates and barriers alone.
func (w wish) row(chance *rand.Rand) api.Circuit {
	c := of(w.qubits, w.bits)
	for range w.ops {
		if mixed := chance.Perm(w.qubits); chance.Intn(12) == 0 {
			c.Ops = append(c.Ops, barrier(mixed[:1+chance.Intn(w.qubits)]...))
		} else {
			c.Ops = append(c.Ops, w.gate(chance, mixed))
		}
	}
	return c
}

func (w *wish) op(chance *rand.Rand) api.Op {
	mixed := chance.Perm(w.qubits)
	switch draw := chance.Intn(24); {
	case draw < 2 && w.measures > 0 && w.bits > 0:
		w.measures--
		return measure(mixed[0], chance.Intn(w.bits))
	case draw == 2 && w.measures > 0:
		w.measures--
		return reset(mixed[0])
	case draw == 3:
		return barrier(mixed[:1+chance.Intn(w.qubits)]...)
	}
	op := w.gate(chance, mixed)
	if w.bits > 0 && chance.Intn(6) == 0 {
		return when(chance.Intn(w.bits), chance.Intn(2), op)
	}
	return op
}

// gate is one on some of these qubits; halving ones come oftener than they would, as long as they may.
func (w *wish) gate(chance *rand.Rand, qubits []int) api.Op {
	for {
		k := api.GateKind(1 + chance.Intn(20))
		if chance.Intn(3) == 0 {
			k = []api.GateKind{api.GateV, api.GateW, api.GateHH}[chance.Intn(3)]
		}
		if gate.Arity(k) > len(qubits) || gate.Halving(k) && w.halves == 0 {
			continue
		}
		if gate.Halving(k) {
			w.halves--
		}
		return do(k, slices.Clone(qubits[:gate.Arity(k)])...)
	}
}

// mixing is a circuit of three qubits whose amplitudes have more and more digits, one in some twelve gates: behind 1000 of them they are rounded.
func mixing(chance *rand.Rand, gates int) api.Circuit {
	c := of(3, 3)
	for i := range gates {
		on := chance.Perm(3)
		switch i % 4 {
		case 0:
			c.Ops = append(c.Ops, do(api.GateKind(18+chance.Intn(3)), on...))
		default:
			c.Ops = append(c.Ops, do(api.GateKind(7+chance.Intn(4)), i%4-1))
		}
	}
	return c
}

// numbers are so many from 0 to below 1.
func numbers(chance *rand.Rand, n int) []float64 {
	l := make([]float64, n)
	for i := range l {
		l[i] = chance.Float64()
		if chance.Intn(4) == 0 {
			l[i] = []float64{0, minus0, tiny, 0.25, 0.5, 0.75, below}[chance.Intn(7)]
		}
	}
	return l
}

// refusedNumbers are those that no measurement takes.
func refusedNumbers() []float64 {
	return []float64{1, math.Nextafter(1, 2), 2, -tiny, -0.5, inf, -inf, nan}
}

// odd is a row of floats as they come, noughts with a sign, infinities and NaN among them; tame is one without the last two.
func odd(chance *rand.Rand, n int) []complex128 {
	l := []float64{0, minus0, 1, -1, 0.5, -3, 0.1, 1 + 0x1p-30, 1e200, -1e-200, tiny, -math.MaxFloat64, inf, -inf, nan}
	return amplitudes(n, func() float64 { return l[chance.Intn(len(l))] })
}

func tame(chance *rand.Rand, n int) []complex128 {
	return amplitudes(n, func() float64 {
		if chance.Intn(4) == 0 {
			return math.Copysign(0, chance.Float64()-0.5)
		}
		return chance.NormFloat64()
	})
}

func amplitudes(n int, draw func() float64) []complex128 {
	l := make([]complex128, n)
	for k := range l {
		l[k] = complex(draw(), draw())
	}
	return l
}

// basis is a basis state, by hand.
func basis(n, k int) []complex128 {
	s := make([]complex128, 1<<n)
	s[k] = 1
	return s
}

// deep is a copy by hand.
func deep(c api.Circuit) api.Circuit {
	d := of(c.Qubits, c.Bits)
	for _, op := range c.Ops {
		op.Qubits = append([]int{}, op.Qubits...)
		d.Ops = append(d.Ops, op)
	}
	return d
}

// wrongSizes are those that no row may have.
func wrongSizes() []int { return []int{0, -1, 7, 8, 64, least, great} }

// wrongCircuits may not be.
func wrongCircuits() []api.Circuit {
	return []api.Circuit{
		of(-1, 0), of(65, 0), of(1, -1), of(1, 65), of(great, great), of(least, 0),
		of(1, 1, repeated(4097, do(api.GateX, 0))...), of(1, 1, repeated(4097, barrier(0))...),
		of(1, 1, do(api.GateX, 1)), of(1, 1, do(api.GateX, -1)), of(1, 1, do(21, 0)), of(1, 1, do(0, 0)), of(2, 1, do(api.GateCX, 0)), of(2, 1, do(api.GateCX, 1, 1)),
		of(1, 1, do(api.GateX, 0), do(api.GateX, 64)), of(64, 1, do(api.GateX, 64)), of(64, 1, do(api.GateX, 63), do(api.GateX, great)),
		of(1, 1, measure(1, 0)), of(1, 1, measure(0, 1)), of(1, 0, measure(0, 0)), of(1, 1, reset(1)), of(1, 1, barrier()), of(2, 1, barrier(0, 0)), of(2, 1, barrier(2)),
		of(1, 1, when(1, 0, do(api.GateX, 0))), of(1, 1, when(0, 2, do(api.GateX, 0))), of(1, 1, when(-1, 1, do(api.GateX, 0))), of(1, 1, when(-2, 0, do(api.GateX, 0))), of(1, 1, when(0, 0, barrier(0))),
		of(1, 1, api.Op{}), of(1, 1, api.Op{Kind: 5, Qubits: []int{0}, If: -1}), of(0, 0, do(api.GateX, 0)),
		// The wrong operation stands behind one that is not unitary.
		of(13, 1, measure(0, 0), do(api.GateX, 13)), of(13, 1, when(0, 1, do(api.GateX, 0)), do(api.GateX, 13)), of(1, 0, reset(0), barrier()),
	}
}

// openCircuits may be, but are not unitary.
func openCircuits() []api.Circuit {
	return []api.Circuit{
		of(1, 1, measure(0, 0)), of(1, 0, reset(0)), of(1, 1, when(0, 0, do(api.GateX, 0))), of(1, 1, when(0, 1, do(api.GateI, 0))),
		of(64, 64, do(api.GateX, 63), barrier(0), measure(63, 63)), of(2, 2, append(repeated(4095, do(api.GateX, 0)), reset(1))...),
	}
}

// wideCircuits may be, but have too many qubits for a state.
func wideCircuits() []api.Circuit {
	return []api.Circuit{of(13, 0), of(13, 64, do(api.GateX, 12), measure(12, 63)), of(64, 1, do(api.GateCX, 0, 63))}
}

// wrongStates are rows that are no states. What room a row has behind its end is nobody's.
func wrongStates() [][]complex128 {
	return [][]complex128{nil, {}, make([]complex128, 0, 1), {1, 0, 0}, make([]complex128, 3, 4), make([]complex128, 5), make([]complex128, 4095, 4096), make([]complex128, 4097), make([]complex128, 8192)}
}

// sameFloat tells whether floats have the same bits, two NaNs counting as the same.
func sameFloat(x, y float64) bool {
	return math.Float64bits(x) == math.Float64bits(y) || x != x && y != y
}

func sameNumber(a, b complex128) bool {
	return sameFloat(real(a), real(b)) && sameFloat(imag(a), imag(b))
}

func sameState(a, b []complex128) bool { return slices.EqualFunc(a, b, sameNumber) }

func sameOutcome(a, b api.Outcome) bool {
	return a.Op == b.Op && a.Qubit == b.Qubit && a.Bit == b.Bit && a.Value == b.Value && sameFloat(a.Zero, b.Zero) && sameFloat(a.One, b.One)
}

func sameOp(a, b api.Op) bool {
	return a.Kind == b.Kind && a.Gate == b.Gate && slices.Equal(a.Qubits, b.Qubits) && a.Bit == b.Bit && a.If == b.If && a.When == b.When
}

func sameCircuit(a, b api.Circuit) bool {
	return a.Qubits == b.Qubits && a.Bits == b.Bits && slices.EqualFunc(a.Ops, b.Ops, sameOp)
}

func samePlan(a, b [][]int) bool { return slices.EqualFunc(a, b, slices.Equal[[]int]) }

func sameBlock(a, b api.Block) bool {
	return slices.Equal(a.Qubits, b.Qubits) && a.Gates == b.Gates && a.M.N == b.M.N && sameState(a.M.E, b.M.E)
}

func sameBlocks(a, b []api.Block) bool { return slices.EqualFunc(a, b, sameBlock) }

func sameResult(a, b api.Result) bool {
	return a.Used == b.Used && slices.Equal(a.Bits, b.Bits) && slices.EqualFunc(a.Log, b.Log, sameOutcome) && sameState(a.State, b.State)
}

// plan, blocks, applied and come are what calls answer that must not refuse.

func plan(t *testing.T, c api.Circuit, k int) [][]int {
	t.Helper()
	l, e := fuse.Plan(c, k)
	if e != api.OK {
		t.Fatal("Plan:", e)
	}
	return l
}

func blocks(t *testing.T, c api.Circuit, k int) []api.Block {
	t.Helper()
	l, e := fuse.Blocks(c, k)
	if e != api.OK {
		t.Fatal("Blocks:", e)
	}
	return l
}

func applied(t *testing.T, s []complex128, l []api.Block) []complex128 {
	t.Helper()
	s, many, e := fuse.Apply(s, l)
	if e != api.OK || many != len(l) {
		t.Fatal("Apply:", many, e)
	}
	return s
}

func come(t *testing.T, c api.Circuit, k int, us ...float64) api.Result {
	t.Helper()
	x, e := fuse.Run(c, k, us)
	if e != api.OK {
		t.Fatal("Run:", e)
	}
	return x
}

// wantPlan holds a plan against rows.
func wantPlan(t *testing.T, what string, c api.Circuit, k int, wanted ...[]int) {
	t.Helper()
	if l := plan(t, c, k); !samePlan(l, wanted) {
		t.Errorf("%s by %d: %v, not %v", what, k, l, wanted)
	}
}

// wantRefused takes Plan and Blocks to answer an error and nothing beside it.
func wantRefused(t *testing.T, what string, c api.Circuit, k int, wanted api.Errno) {
	t.Helper()
	if l, e := fuse.Plan(c, k); e != wanted || len(l) != 0 {
		t.Errorf("Plan of %s by %d: %d rows, error %d, not %d", what, k, len(l), e, wanted)
	}
	if l, e := fuse.Blocks(c, k); e != wanted || len(l) != 0 {
		t.Errorf("Blocks of %s by %d: %d blocks, error %d, not %d", what, k, len(l), e, wanted)
	}
}

// wantNoRun takes Run to answer an error and nothing beside it.
func wantNoRun(t *testing.T, what string, c api.Circuit, k int, us []float64, wanted api.Errno) {
	t.Helper()
	if x, e := fuse.Run(c, k, us); e != wanted || !sameResult(x, api.Result{}) {
		t.Errorf("Run of %s by %d: %v, error %d, not %d", what, k, x, e, wanted)
	}
}
