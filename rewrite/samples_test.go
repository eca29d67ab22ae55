package rewrite_test

import (
	"math"
	"math/rand"
	"slices"
	"strconv"
	"strings"
	"testing"

	"phasor/api"
	"phasor/circuit"
	"phasor/gate"
	"phasor/rewrite"
)

const (
	least = math.MinInt
	great = math.MaxInt
	below = 1 - 0x1p-53 // the greatest float below 1
)

// Operations in short.

func do(k api.GateKind, qubits ...int) api.Op {
	return api.Op{Kind: api.OpGate, Gate: k, Qubits: qubits, If: -1}
}

func when(bit, value int, op api.Op) api.Op {
	op.If, op.When = bit, value
	return op
}

func measure(qubit, bit int) api.Op {
	return api.Op{Kind: api.OpMeasure, Qubits: []int{qubit}, Bit: bit, If: -1}
}

func reset(qubit int) api.Op {
	return api.Op{Kind: api.OpReset, Qubits: []int{qubit}, If: -1}
}

func barrier(qubits ...int) api.Op {
	return api.Op{Kind: api.OpBarrier, Qubits: qubits, If: -1}
}

func of(qubits, bits int, ops ...api.Op) api.Circuit {
	return api.Circuit{Qubits: qubits, Bits: bits, Ops: ops}
}

// times is a row of operations so many times.
func times(n int, ops ...api.Op) []api.Op {
	var l []api.Op
	for range n {
		l = append(l, ops...)
	}
	return l
}

// behind is rows of operations one behind the other.
func behind(rows ...[]api.Op) []api.Op { return slices.Concat(rows...) }

// ops reads operations as the chapter's examples write them: "x 0; measure 0 -> 1; if 1 0 cx 0 1".
func ops(t *testing.T, text string) []api.Op {
	t.Helper()
	var l []api.Op
	for part := range strings.SplitSeq(text, ";") {
		words := strings.Fields(strings.ReplaceAll(part, "->", ""))
		if len(words) > 0 {
			l = append(l, opOf(t, words))
		}
	}
	return l
}

func opOf(t *testing.T, words []string) api.Op {
	t.Helper()
	if words[0] == "if" {
		l := numbers(t, words[1:3])
		return when(l[0], l[1], opOf(t, words[3:]))
	}
	l := numbers(t, words[1:])
	switch words[0] {
	case "measure":
		return measure(l[0], l[1])
	case "reset":
		return reset(l[0])
	case "barrier":
		return barrier(l...)
	}
	return do(kind(t, words[0]), l...)
}

func numbers(t *testing.T, words []string) []int {
	t.Helper()
	l := []int{}
	for _, s := range words {
		n, err := strconv.Atoi(s)
		if err != nil {
			t.Fatal(err)
		}
		l = append(l, n)
	}
	return l
}

func kind(t *testing.T, name string) api.GateKind {
	t.Helper()
	k, e := gate.Of(name)
	if e != api.OK {
		t.Fatal("no gate:", name)
	}
	return k
}

// text is a circuit of 5 qubits and 3 bits with such operations.
func text(t *testing.T, s string) api.Circuit {
	t.Helper()
	return of(5, 3, ops(t, s)...)
}

// wish is what a circuit at chance may have at most; a count that is used up is not drawn again.
type wish struct {
	qubits, bits, ops, halves, measures int
	kinds                               []api.GateKind // if some: these alone
}

// drawn is a circuit at chance, of just so many qubits, bits and operations.
func (w wish) drawn(chance *rand.Rand) api.Circuit {
	c := of(w.qubits, w.bits)
	for range w.ops {
		c.Ops = append(c.Ops, w.op(chance))
	}
	return c
}

func (w *wish) op(chance *rand.Rand) api.Op {
	mixed := chance.Perm(w.qubits)
	switch draw := chance.Intn(30); {
	case draw < 2 && w.measures > 0 && w.bits > 0:
		w.measures--
		return measure(mixed[0], chance.Intn(w.bits))
	case draw == 2 && w.measures > 0:
		w.measures--
		return reset(mixed[0])
	case draw == 3:
		return barrier(mixed[:1+chance.Intn(w.qubits)]...)
	}
	op := w.gate(chance, mixed)
	if w.bits > 0 && chance.Intn(8) == 0 {
		return when(chance.Intn(w.bits), chance.Intn(2), op)
	}
	return op
}

// gate is one on some of these qubits.
func (w *wish) gate(chance *rand.Rand, qubits []int) api.Op {
	kinds := w.kinds
	if len(kinds) == 0 {
		kinds = gate.Kinds()
	}
	for {
		k := kinds[chance.Intn(len(kinds))]
		if gate.Halving(k) && w.halves == 0 {
			k = api.GateS
		}
		if gate.Arity(k) > len(qubits) {
			continue
		}
		if gate.Halving(k) {
			w.halves--
		}
		return do(k, slices.Clone(qubits[:gate.Arity(k)])...)
	}
}

// families are kinds of which rules may often be used, alone and together.
func families() [][]api.GateKind {
	return [][]api.GateKind{
		nil,
		{api.GateI, api.GateX, api.GateY, api.GateZ},
		{api.GateZ, api.GateS, api.GateSdg, api.GateCZ, api.GateCCZ},
		{api.GateV, api.GateVdg, api.GateW, api.GateWdg, api.GateS, api.GateSdg},
		{api.GateX, api.GateCX, api.GateCCX},
		{api.GateSwap, api.GateISw, api.GateISwd, api.GateHH, api.GateCSw},
		{api.GateCX, api.GateCZ, api.GateCY, api.GateZ},
		{api.GateI, api.GateX, api.GateV, api.GateVdg, api.GateCX},
	}
}

// samples are circuits at chance, of few qubits and of many, that rules find much in.
func samples(chance *rand.Rand, n int) []api.Circuit {
	var l []api.Circuit
	for i := range n {
		w := wish{qubits: 1 + chance.Intn(4), bits: chance.Intn(4), ops: chance.Intn(40), halves: 40, measures: chance.Intn(6)}
		if i%10 == 0 {
			w.qubits, w.bits = 1+chance.Intn(64), chance.Intn(65)
		}
		w.kinds = families()[i%len(families())]
		if w.qubits == 1 && w.kinds != nil && !slices.ContainsFunc(w.kinds, func(k api.GateKind) bool { return gate.Arity(k) == 1 }) {
			w.qubits = 3
		}
		if w.qubits < 3 && i%len(families()) == 5 {
			w.qubits = 3
		}
		l = append(l, w.drawn(chance))
	}
	return l
}

// deep is a copy by hand.
func deep(c api.Circuit) api.Circuit {
	d := of(c.Qubits, c.Bits)
	for _, op := range c.Ops {
		op.Qubits = append([]int{}, op.Qubits...)
		d.Ops = append(d.Ops, op)
	}
	return d
}

// wrongCircuits may not be. What is wrong stands behind what Expand and Linear refuse, too.
func wrongCircuits() []api.Circuit {
	return []api.Circuit{
		of(-1, 0), of(65, 0), of(1, -1), of(1, 65), of(great, great), of(least, 0), of(64, 65), of(65, 64),
		of(1, 1, times(4097, do(api.GateX, 0))...), of(1, 1, times(4097, barrier(0))...), of(2, 1, times(4097, do(api.GateSwap, 0, 1))...),
		of(1, 1, do(api.GateX, 1)), of(1, 1, do(api.GateX, -1)), of(1, 1, do(21, 0)), of(1, 1, do(0, 0)), of(1, 1, do(-1, 0)), of(1, 1, do(great, 0)), of(1, 1, do(least, 0)),
		of(2, 1, do(api.GateCX, 0)), of(2, 1, do(api.GateCX, 1, 1)), of(2, 1, do(api.GateX, 0, 1)), of(1, 1, do(api.GateY)), of(3, 0, do(api.GateCCZ, 0, 1)), of(3, 0, do(api.GateHH, 0)),
		of(1, 1, do(api.GateX, 0), do(api.GateX, 64)), of(64, 1, do(api.GateX, 64)), of(64, 1, do(api.GateX, 63), do(api.GateX, great)),
		of(1, 1, measure(1, 0)), of(1, 1, measure(0, 1)), of(1, 0, measure(0, 0)), of(1, 1, reset(1)), of(1, 1, barrier()), of(2, 1, barrier(0, 0)), of(2, 1, barrier(2)),
		of(1, 1, when(1, 0, do(api.GateX, 0))), of(1, 1, when(0, 2, do(api.GateX, 0))), of(1, 1, when(-1, 1, do(api.GateX, 0))), of(1, 1, when(-2, 0, do(api.GateX, 0))), of(1, 1, when(0, 0, barrier(0))),
		of(1, 1, api.Op{}), of(1, 1, api.Op{Kind: 5, Qubits: []int{0}, If: -1}), of(0, 0, do(api.GateX, 0)),
		of(1, 1, api.Op{Kind: api.OpBarrier, Gate: api.GateX, Qubits: []int{0}, If: -1}), of(1, 1, api.Op{Kind: api.OpGate, Gate: api.GateX, Qubits: []int{0}, Bit: 1, If: -1}),
		of(3, 1, measure(0, 0), do(api.GateX, 3)), of(3, 1, when(0, 1, do(api.GateX, 0)), do(api.GateX, 3)), of(1, 0, reset(0), barrier()), of(2, 0, do(api.GateS, 0), do(api.GateX, 2)),
		of(2, 0, behind(times(4095, do(api.GateHH, 0, 1)), []api.Op{do(api.GateY, 2)})...),
	}
}

func sameOp(a, b api.Op) bool {
	return a.Kind == b.Kind && a.Gate == b.Gate && slices.Equal(a.Qubits, b.Qubits) && a.Bit == b.Bit && a.If == b.If && a.When == b.When
}

func sameCircuit(a, b api.Circuit) bool {
	return a.Qubits == b.Qubits && a.Bits == b.Bits && slices.EqualFunc(a.Ops, b.Ops, sameOp)
}

// call is one of the layer's, with a name.
type call struct {
	name string
	of   func(c api.Circuit) (api.Circuit, api.Errno)
}

var (
	cancel   = call{"Cancel", rewrite.Cancel}
	merge    = call{"Merge", rewrite.Merge}
	simplify = call{"Simplify", rewrite.Simplify}
	order    = call{"Order", rewrite.Order}
	expand   = call{"Expand", rewrite.Expand}
	slide    = call{"Slide", rewrite.Slide}
	pack     = call{"Pack", rewrite.Pack}
)

// shortening are those whose answers are never longer.
func shortening() []call { return []call{cancel, merge, simplify, slide, pack} }

// calls are all that make a circuit of one.
func calls() []call { return append(shortening(), order, expand) }

// answer is what a call answers that must not refuse: a circuit that may be. What it was given is not changed.
func (f call) answer(t *testing.T, c api.Circuit) api.Circuit {
	t.Helper()
	ahead := deep(c)
	d, e := f.of(c)
	if e != api.OK {
		t.Fatalf("%s: error %d", f.name, e)
	}
	if !sameCircuit(c, ahead) {
		t.Fatalf("%s: the circuit was changed", f.name)
	}
	if at, e := circuit.Check(d); e != api.OK {
		t.Fatalf("%s: what comes may not be at %d: %v", f.name, at, d)
	}
	return d
}

// want takes a call to answer a circuit.
func (f call) want(t *testing.T, what string, c, wanted api.Circuit) {
	t.Helper()
	if d := f.answer(t, c); !sameCircuit(d, wanted) {
		t.Errorf("%s of %s: %v, not %v", f.name, what, d, wanted)
	}
}

// wantText takes a call to make such operations of others.
func (f call) wantText(t *testing.T, from, to string) {
	t.Helper()
	f.want(t, from, text(t, from), text(t, to))
}

// stays takes a call to leave operations as they are.
func (f call) stays(t *testing.T, from string) {
	t.Helper()
	f.wantText(t, from, from)
}

// refuses takes a call to answer an error, and nothing beside it.
func (f call) refuses(t *testing.T, what string, c api.Circuit, wanted api.Errno) {
	t.Helper()
	ahead := deep(c)
	d, e := f.of(c)
	if e != wanted || d.Qubits != 0 || d.Bits != 0 || len(d.Ops) != 0 {
		t.Errorf("%s of %s: %v, error %d, not %d", f.name, what, d, e, wanted)
	}
	if !sameCircuit(c, ahead) {
		t.Errorf("%s of %s: the circuit was changed", f.name, what)
	}
}

// wantOwn takes each list of an answer to be its own: what is written into one, or put behind it, is seen in no other, nor in what was handed in, nor by a call that comes later.
func (f call) wantOwn(t *testing.T, c api.Circuit) {
	t.Helper()
	ahead, wanted := deep(c), f.answer(t, c)
	kept := deep(wanted)
	d := f.answer(t, c)
	for i := range d.Ops {
		for j := range d.Ops[i].Qubits {
			d.Ops[i].Qubits[j] = 1000*i + j
		}
		_ = append(d.Ops[i].Qubits, -7, -7, -7)
	}
	for i, op := range d.Ops {
		for j, q := range op.Qubits {
			if q != 1000*i+j {
				t.Fatalf("%s: lists of operation %d and another share memory", f.name, i)
			}
		}
	}
	clear(d.Ops)
	_ = append(d.Ops, api.Op{Kind: 9})
	if !sameCircuit(c, ahead) || !sameCircuit(wanted, kept) || !sameCircuit(f.answer(t, c), kept) {
		t.Fatalf("%s: memory is shared", f.name)
	}
}
