package layers_test

import (
	"math"
	"math/rand"
	"slices"
	"strconv"
	"strings"
	"testing"

	"phasor/api"
	"phasor/circuit"
	"phasor/gate"
	"phasor/layers"
)

const (
	least = math.MinInt
	great = math.MaxInt
)

// Operations in short.

func do(k api.GateKind, qubits ...int) api.Op {
	return api.Op{Kind: api.OpGate, Gate: k, Qubits: qubits, If: -1}
}

func when(bit, value int, op api.Op) api.Op {
	op.If, op.When = bit, value
	return op
}

func measure(qubit, bit int) api.Op {
	return api.Op{Kind: api.OpMeasure, Qubits: []int{qubit}, Bit: bit, If: -1}
}

func reset(qubit int) api.Op {
	return api.Op{Kind: api.OpReset, Qubits: []int{qubit}, If: -1}
}

func barrier(qubits ...int) api.Op {
	return api.Op{Kind: api.OpBarrier, Qubits: qubits, If: -1}
}

func of(qubits, bits int, ops ...api.Op) api.Circuit {
	return api.Circuit{Qubits: qubits, Bits: bits, Ops: ops}
}

// times is a row of operations so many times.
func times(n int, ops ...api.Op) []api.Op {
	var l []api.Op
	for range n {
		l = append(l, ops...)
	}
	return l
}

// behind is rows of operations one behind the other.
func behind(rows ...[]api.Op) []api.Op { return slices.Concat(rows...) }

// upTo is the numbers from 0 to below n.
func upTo(n int) []int {
	l := make([]int, n)
	for i := range l {
		l[i] = i
	}
	return l
}

// ops reads operations as the chapter's examples write them: "x 0; measure 0 -> 1; if 1 0 cx 0 1".
func ops(t *testing.T, text string) []api.Op {
	t.Helper()
	var l []api.Op
	for part := range strings.SplitSeq(text, ";") {
		words := strings.Fields(strings.ReplaceAll(part, "->", ""))
		if len(words) > 0 {
			l = append(l, opOf(t, words))
		}
	}
	return l
}

func opOf(t *testing.T, words []string) api.Op {
	t.Helper()
	if words[0] == "if" {
		l := numbers(t, words[1:3])
		return when(l[0], l[1], opOf(t, words[3:]))
	}
	l := numbers(t, words[1:])
	switch words[0] {
	case "measure":
		return measure(l[0], l[1])
	case "reset":
		return reset(l[0])
	case "barrier":
		return barrier(l...)
	}
	k, e := gate.Of(words[0])
	if e != api.OK {
		t.Fatal("no gate:", words[0])
	}
	return do(k, l...)
}

func numbers(t *testing.T, words []string) []int {
	t.Helper()
	l := []int{}
	for _, s := range words {
		n, err := strconv.Atoi(s)
		if err != nil {
			t.Fatal(err)
		}
		l = append(l, n)
	}
	return l
}

// row reads numbers.
func row(t *testing.T, s string) []int {
	t.Helper()
	return numbers(t, strings.Fields(s))
}

// rows reads rows of numbers: "0 2; 1; 4".
func rows(t *testing.T, s string) [][]int {
	t.Helper()
	l := [][]int{}
	for part := range strings.SplitSeq(s, ";") {
		if r := row(t, part); len(r) > 0 {
			l = append(l, r)
		}
	}
	return l
}

// text is a circuit of 5 qubits and 3 bits with such operations.
func text(t *testing.T, s string) api.Circuit {
	t.Helper()
	return of(5, 3, ops(t, s)...)
}

// wish is what a circuit at chance may have at most; a count that is used up is not drawn again. Of thirty operations some are barriers.
type wish struct {
	qubits, bits, ops, halves, measures, barriers int
}

// drawn is a circuit at chance, of just so many qubits, bits and operations.
func (w wish) drawn(chance *rand.Rand) api.Circuit {
	c := of(w.qubits, w.bits)
	for range w.ops {
		c.Ops = append(c.Ops, w.op(chance))
	}
	return c
}

func (w *wish) op(chance *rand.Rand) api.Op {
	mixed := chance.Perm(w.qubits)
	switch draw := chance.Intn(30); {
	case draw < 4 && w.measures > 0 && w.bits > 0:
		w.measures--
		return measure(mixed[0], chance.Intn(w.bits))
	case draw < 6 && w.measures > 0:
		w.measures--
		return reset(mixed[0])
	case draw < 6+w.barriers:
		return barrier(slices.Clone(mixed[:1+chance.Intn(w.qubits)])...)
	}
	op := w.gate(chance, mixed)
	if w.bits > 0 && chance.Intn(4) == 0 {
		return when(chance.Intn(w.bits), chance.Intn(2), op)
	}
	return op
}

// gate is one on some of these qubits.
func (w *wish) gate(chance *rand.Rand, qubits []int) api.Op {
	for {
		k := gate.Kinds()[chance.Intn(len(gate.Kinds()))]
		if gate.Halving(k) && w.halves == 0 {
			k = api.GateS
		}
		if gate.Arity(k) > len(qubits) {
			continue
		}
		if gate.Halving(k) {
			w.halves--
		}
		return do(k, slices.Clone(qubits[:gate.Arity(k)])...)
	}
}

// samples are circuits at chance, of few qubits and of many, with few barriers and with many.
func samples(chance *rand.Rand, n int) []api.Circuit {
	var l []api.Circuit
	for i := range n {
		w := wish{qubits: 1 + chance.Intn(7), bits: chance.Intn(4), ops: chance.Intn(30), halves: 40, measures: chance.Intn(8), barriers: chance.Intn(5)}
		switch i % 10 {
		case 0:
			w.qubits, w.bits, w.ops = 1+chance.Intn(64), chance.Intn(65), chance.Intn(100)
		case 1:
			w.barriers = 20
		}
		l = append(l, w.drawn(chance))
	}
	return l
}

// some are qubits of a circuit at chance, none among them twice.
func some(chance *rand.Rand, c api.Circuit) []int {
	return chance.Perm(c.Qubits)[:chance.Intn(c.Qubits+1)]
}

// deep is a copy by hand.
func deep(c api.Circuit) api.Circuit {
	d := of(c.Qubits, c.Bits)
	for _, op := range c.Ops {
		op.Qubits = append([]int{}, op.Qubits...)
		d.Ops = append(d.Ops, op)
	}
	return d
}

// turned has the operations the other way round.
func turned(c api.Circuit) api.Circuit {
	d := deep(c)
	slices.Reverse(d.Ops)
	return d
}

// wrongCircuits may not be.
func wrongCircuits() []api.Circuit {
	return []api.Circuit{
		of(-1, 0), of(65, 0), of(1, -1), of(1, 65), of(great, great), of(least, 0), of(64, 65), of(65, 64),
		of(1, 1, times(4097, do(api.GateX, 0))...), of(1, 1, times(4097, barrier(0))...),
		of(1, 1, do(api.GateX, 1)), of(1, 1, do(api.GateX, -1)), of(1, 1, do(21, 0)), of(1, 1, do(0, 0)), of(1, 1, do(-1, 0)), of(1, 1, do(great, 0)), of(1, 1, do(least, 0)),
		of(2, 1, do(api.GateCX, 0)), of(2, 1, do(api.GateCX, 1, 1)), of(2, 1, do(api.GateX, 0, 1)), of(1, 1, do(api.GateY)), of(3, 0, do(api.GateCCZ, 0, 1)),
		of(1, 1, do(api.GateX, 0), do(api.GateX, 64)), of(64, 1, do(api.GateX, 64)), of(64, 1, do(api.GateX, 63), do(api.GateX, great)), of(64, 1, do(api.GateX, 128)),
		of(1, 1, measure(1, 0)), of(1, 1, measure(0, 1)), of(1, 0, measure(0, 0)), of(1, 64, measure(0, 64)), of(1, 1, measure(0, -1)), of(1, 1, reset(1)), of(1, 1, barrier()), of(2, 1, barrier(0, 0)), of(2, 1, barrier(2)),
		of(1, 1, when(1, 0, do(api.GateX, 0))), of(1, 1, when(0, 2, do(api.GateX, 0))), of(1, 1, when(-1, 1, do(api.GateX, 0))), of(1, 1, when(-2, 0, do(api.GateX, 0))), of(1, 1, when(0, 0, barrier(0))), of(1, 64, when(64, 0, do(api.GateX, 0))),
		of(1, 1, api.Op{}), of(1, 1, api.Op{Kind: 5, Qubits: []int{0}, If: -1}), of(0, 0, do(api.GateX, 0)),
		of(1, 1, api.Op{Kind: api.OpBarrier, Gate: api.GateX, Qubits: []int{0}, If: -1}), of(1, 1, api.Op{Kind: api.OpGate, Gate: api.GateX, Qubits: []int{0}, Bit: 1, If: -1}),
		of(2, 0, behind(times(4095, do(api.GateHH, 0, 1)), []api.Op{do(api.GateY, 2)})...),
	}
}

func sameOp(a, b api.Op) bool {
	return a.Kind == b.Kind && a.Gate == b.Gate && slices.Equal(a.Qubits, b.Qubits) && a.Bit == b.Bit && a.If == b.If && a.When == b.When
}

func sameCircuit(a, b api.Circuit) bool {
	return a.Qubits == b.Qubits && a.Bits == b.Bits && slices.EqualFunc(a.Ops, b.Ops, sameOp)
}

// told is what a call answers: a number, rows of numbers, or a circuit.
type told struct {
	number  int
	rows    [][]int
	circuit api.Circuit
}

func (a told) same(b told) bool {
	return a.number == b.number && slices.EqualFunc(a.rows, b.rows, slices.Equal[[]int]) && sameCircuit(a.circuit, b.circuit)
}

func (a told) copied() told {
	b := told{number: a.number, circuit: deep(a.circuit)}
	for _, l := range a.rows {
		b.rows = append(b.rows, append([]int{}, l...))
	}
	return b
}

// nothing tells whether all is zero and empty.
func (a told) nothing() bool {
	return a.number == 0 && len(slices.Concat(a.rows...)) == 0 && sameCircuit(a.circuit, api.Circuit{})
}

// lists are all lists of numbers that an answer holds.
func (a told) lists() [][]int {
	l := slices.Clone(a.rows)
	for _, op := range a.circuit.Ops {
		l = append(l, op.Qubits)
	}
	return l
}

// call is one of the layer's, with a name. What takes no qubits is given some, and does without.
type call struct {
	name  string
	takes bool // whether it takes qubits
	of    func(c api.Circuit, qubits []int) (told, api.Errno)
}

func ofRow(name string, f func(c api.Circuit) ([]int, api.Errno)) call {
	return call{name, false, func(c api.Circuit, _ []int) (told, api.Errno) {
		l, e := f(c)
		return told{rows: [][]int{l}}, e
	}}
}

func ofQubits(name string, f func(c api.Circuit, qubits []int) ([]int, api.Errno)) call {
	return call{name, true, func(c api.Circuit, qubits []int) (told, api.Errno) {
		l, e := f(c, qubits)
		return told{rows: [][]int{l}}, e
	}}
}

var (
	early = ofRow("Early", layers.Early)
	late  = ofRow("Late", layers.Late)
	depth = call{"Depth", false, func(c api.Circuit, _ []int) (told, api.Errno) {
		n, e := layers.Depth(c)
		return told{number: n}, e
	}}
	moments = call{"Moments", false, func(c api.Circuit, _ []int) (told, api.Errno) {
		l, e := layers.Moments(c)
		return told{rows: l}, e
	}}
	sorted = call{"Sorted", false, func(c api.Circuit, _ []int) (told, api.Errno) {
		d, e := layers.Sorted(c)
		return told{circuit: d}, e
	}}
	past   = ofQubits("Past", layers.Past)
	future = ofQubits("Future", layers.Future)
	prune  = call{"Prune", true, func(c api.Circuit, qubits []int) (told, api.Errno) {
		d, e := layers.Prune(c, qubits)
		return told{circuit: d}, e
	}}
)

func calls() []call { return []call{early, late, depth, moments, sorted, past, future, prune} }

// answer is what a call answers that must not refuse. What it was given is not changed.
func (f call) answer(t *testing.T, c api.Circuit, qubits ...int) told {
	t.Helper()
	ahead, qubitsAhead := deep(c), slices.Clone(qubits)
	a, e := f.of(c, qubits)
	if e != api.OK {
		t.Fatalf("%s: error %d", f.name, e)
	}
	if !sameCircuit(c, ahead) || !slices.Equal(qubits, qubitsAhead) {
		t.Fatalf("%s: what was handed in was changed", f.name)
	}
	if at, e := circuit.Check(a.circuit); e != api.OK {
		t.Fatalf("%s: what comes may not be at %d: %v", f.name, at, a.circuit)
	}
	return a
}

// row is the row that a call answers.
func (f call) row(t *testing.T, c api.Circuit, qubits ...int) []int {
	t.Helper()
	return f.answer(t, c, qubits...).rows[0]
}

func (f call) want(t *testing.T, c api.Circuit, qubits []int, wanted told) {
	t.Helper()
	if a := f.answer(t, c, qubits...); !a.same(wanted) {
		t.Errorf("%s of %v, %v: %v, not %v", f.name, c, qubits, a, wanted)
	}
}

// wantRow takes a call to answer a row of numbers.
func (f call) wantRow(t *testing.T, c api.Circuit, wanted []int, qubits ...int) {
	t.Helper()
	f.want(t, c, qubits, told{rows: [][]int{wanted}})
}

// wantCircuit takes a call to answer a circuit.
func (f call) wantCircuit(t *testing.T, c, wanted api.Circuit, qubits ...int) {
	t.Helper()
	f.want(t, c, qubits, told{circuit: wanted})
}

// refuses takes a call to answer an error, and nothing beside it.
func (f call) refuses(t *testing.T, what string, c api.Circuit, qubits []int, wanted api.Errno) {
	t.Helper()
	ahead, qubitsAhead := deep(c), slices.Clone(qubits)
	a, e := f.of(c, qubits)
	if e != wanted || !a.nothing() {
		t.Errorf("%s of %s: %v, error %d, not %d", f.name, what, a, e, wanted)
	}
	if !sameCircuit(c, ahead) || !slices.Equal(qubits, qubitsAhead) {
		t.Errorf("%s of %s: what was handed in was changed", f.name, what)
	}
}

// wantOwn takes each list of an answer to be its own: what is written into one, or put behind it, is seen in no other, nor in what was handed in, nor by a call that comes later.
func (f call) wantOwn(t *testing.T, c api.Circuit, qubits []int) {
	t.Helper()
	ahead, qubitsAhead := deep(c), slices.Clone(qubits)
	wanted := f.answer(t, c, qubits...)
	kept := wanted.copied()
	a := f.answer(t, c, qubits...)
	for i, l := range a.lists() {
		for j := range l {
			l[j] = 1000*i + j
		}
		_ = append(l, -7, -7, -7)
	}
	for i, l := range a.lists() {
		for j, n := range l {
			if n != 1000*i+j {
				t.Fatalf("%s: list %d and another share memory", f.name, i)
			}
		}
	}
	clear(a.circuit.Ops)
	_ = append(a.circuit.Ops, api.Op{Kind: 9})
	clear(a.rows)
	if !sameCircuit(c, ahead) || !slices.Equal(qubits, qubitsAhead) || !wanted.same(kept) || !f.answer(t, c, qubits...).same(kept) {
		t.Fatalf("%s: memory is shared", f.name)
	}
}
