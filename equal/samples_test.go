package equal_test

import (
	"math"
	"math/rand"
	"slices"
	"strconv"
	"strings"
	"testing"

	"phasor/api"
	"phasor/equal"
	"phasor/gate"
)

const (
	least = math.MinInt
	great = math.MaxInt
)

// Operations in short.

func do(k api.GateKind, qubits ...int) api.Op {
	return api.Op{Kind: api.OpGate, Gate: k, Qubits: qubits, If: -1}
}

func when(bit, value int, op api.Op) api.Op {
	op.If, op.When = bit, value
	return op
}

func measure(qubit, bit int) api.Op {
	return api.Op{Kind: api.OpMeasure, Qubits: []int{qubit}, Bit: bit, If: -1}
}

func reset(qubit int) api.Op {
	return api.Op{Kind: api.OpReset, Qubits: []int{qubit}, If: -1}
}

func barrier(qubits ...int) api.Op {
	return api.Op{Kind: api.OpBarrier, Qubits: qubits, If: -1}
}

func of(qubits, bits int, ops ...api.Op) api.Circuit {
	return api.Circuit{Qubits: qubits, Bits: bits, Ops: ops}
}

// times is a row of operations so many times.
func times(n int, ops ...api.Op) []api.Op { return slices.Repeat(ops, n) }

// behind is rows of operations one behind the other.
func behind(rows ...[]api.Op) []api.Op { return slices.Concat(rows...) }

// ops reads operations as the chapter's examples write them: "x 0; measure 0 -> 1; if 1 0 cx 0 1".
func ops(t *testing.T, text string) []api.Op {
	t.Helper()
	var l []api.Op
	for part := range strings.SplitSeq(text, ";") {
		words := strings.Fields(strings.ReplaceAll(part, "->", ""))
		if len(words) > 0 {
			l = append(l, opOf(t, words))
		}
	}
	return l
}

func opOf(t *testing.T, words []string) api.Op {
	t.Helper()
	if words[0] == "if" {
		l := numbers(t, words[1:3])
		return when(l[0], l[1], opOf(t, words[3:]))
	}
	l := numbers(t, words[1:])
	switch words[0] {
	case "measure":
		return measure(l[0], l[1])
	case "reset":
		return reset(l[0])
	case "barrier":
		return barrier(l...)
	}
	k, e := gate.Of(words[0])
	if e != api.OK {
		t.Fatal("no gate:", words[0])
	}
	return do(k, l...)
}

func numbers(t *testing.T, words []string) []int {
	t.Helper()
	l := []int{}
	for _, s := range words {
		n, err := strconv.Atoi(s)
		if err != nil {
			t.Fatal(err)
		}
		l = append(l, n)
	}
	return l
}

// gates is a circuit of so many qubits, without bits.
func gates(t *testing.T, qubits int, text string) api.Circuit {
	t.Helper()
	return of(qubits, 0, ops(t, text)...)
}

// bitted is one of so many qubits and bits.
func bitted(t *testing.T, qubits, bits int, text string) api.Circuit {
	t.Helper()
	return of(qubits, bits, ops(t, text)...)
}

// wish is what a circuit at chance may have at most; a count that is used up is not drawn again.
type wish struct {
	qubits, bits, ops, halves, measures int
	clifford                            bool // gates of Clifford kinds alone
	asks                                bool // some gates have conditions
}

// drawn is a circuit at chance, of just so many qubits, bits and operations.
func (w wish) drawn(chance *rand.Rand) api.Circuit {
	c := of(w.qubits, w.bits)
	for range w.ops {
		if w.qubits > 0 {
			c.Ops = append(c.Ops, w.op(chance))
		}
	}
	return c
}

func (w *wish) op(chance *rand.Rand) api.Op {
	mixed := chance.Perm(w.qubits)
	switch draw := chance.Intn(30); {
	case draw < 6 && w.measures > 0 && w.bits > 0:
		w.measures--
		return measure(mixed[0], chance.Intn(w.bits))
	case draw < 8 && w.measures > 0:
		w.measures--
		return reset(mixed[0])
	case draw < 9:
		return barrier(slices.Clone(mixed[:1+chance.Intn(w.qubits)])...)
	}
	op := w.gate(chance, mixed)
	if w.asks && w.bits > 0 && chance.Intn(3) == 0 {
		return when(chance.Intn(w.bits), chance.Intn(2), op)
	}
	return op
}

// gate is one on some of these qubits.
func (w *wish) gate(chance *rand.Rand, qubits []int) api.Op {
	for {
		k := gate.Kinds()[chance.Intn(len(gate.Kinds()))]
		if gate.Arity(k) > len(qubits) || gate.Halving(k) && w.halves == 0 || w.clifford && !gate.Clifford(k) {
			continue
		}
		if gate.Halving(k) {
			w.halves--
		}
		return do(k, slices.Clone(qubits[:gate.Arity(k)])...)
	}
}

// stirred is a circuit of four qubits that stirs amplitudes so many times: where these are hundreds, they are rounded.
func stirred(chance *rand.Rand, n int) api.Circuit {
	c := of(4, 0)
	for range n {
		l := chance.Perm(4)
		c.Ops = append(c.Ops, do(api.GateW, l[0]), do(api.GateV, l[1]), do(api.GateV, l[2]), do(api.GateCCZ, l[0], l[1], l[2]))
	}
	return c
}

// put is a circuit with operations put in at a place.
func put(c api.Circuit, at int, l ...api.Op) api.Circuit {
	d := deep(c)
	d.Ops = slices.Insert(d.Ops, at, l...)
	return d
}

// kin is a circuit that is much like another one: here and there is a gate with its inverse behind it, a row of gates that is nothing but the factor i or -1, a gate written by others; and some have a gate that does not belong there. At most ten halving gates come in.
func kin(chance *rand.Rand, c api.Circuit) api.Circuit {
	d := deep(c)
	for range chance.Intn(6) {
		if d.Qubits == 0 {
			return d
		}
		q, at := chance.Intn(d.Qubits), chance.Intn(len(d.Ops)+1)
		x, z, s := do(api.GateX, q), do(api.GateZ, q), do(api.GateS, q)
		switch chance.Intn(6) {
		case 0:
			d = put(d, at, do(api.GateV, q), do(api.GateX, q), do(api.GateVdg, q), do(api.GateX, q))
		case 1:
			d = put(d, at, x, s, x, s)
		case 2:
			d = put(d, at, x, z, x, z)
		case 3:
			d = put(d, at, do(api.GateY, q), x, z)
		case 4:
			d = put(d, at, barrier(q), s, s, z)
		case 5:
			w := wish{qubits: d.Qubits, clifford: true}
			d = put(d, at, w.gate(chance, chance.Perm(d.Qubits)))
		}
	}
	return d
}

// deep is a copy by hand.
func deep(c api.Circuit) api.Circuit {
	d := of(c.Qubits, c.Bits)
	for _, op := range c.Ops {
		op.Qubits = append([]int{}, op.Qubits...)
		d.Ops = append(d.Ops, op)
	}
	return d
}

func sameOp(a, b api.Op) bool {
	return a.Kind == b.Kind && a.Gate == b.Gate && slices.Equal(a.Qubits, b.Qubits) && a.Bit == b.Bit && a.If == b.If && a.When == b.When
}

func sameCircuit(a, b api.Circuit) bool {
	return a.Qubits == b.Qubits && a.Bits == b.Bits && slices.EqualFunc(a.Ops, b.Ops, sameOp)
}

// wrongCircuits may not be.
func wrongCircuits() []api.Circuit {
	return []api.Circuit{
		of(-1, 0), of(65, 0), of(1, -1), of(1, 65), of(great, great), of(least, 0), of(64, 65), of(65, 64),
		of(1, 1, times(4097, do(api.GateX, 0))...), of(1, 1, times(4097, barrier(0))...),
		of(1, 1, do(api.GateX, 1)), of(1, 1, do(api.GateX, -1)), of(1, 1, do(21, 0)), of(1, 1, do(0, 0)), of(1, 1, do(-1, 0)), of(1, 1, do(great, 0)), of(1, 1, do(least, 0)),
		of(2, 1, do(api.GateCX, 0)), of(2, 1, do(api.GateCX, 1, 1)), of(2, 1, do(api.GateX, 0, 1)), of(1, 1, do(api.GateY)), of(3, 0, do(api.GateCCZ, 0, 1)),
		of(1, 1, do(api.GateX, 0), do(api.GateX, 64)), of(64, 1, do(api.GateX, 64)), of(64, 1, do(api.GateX, 63), do(api.GateX, great)), of(64, 1, do(api.GateX, 128)),
		of(1, 1, measure(1, 0)), of(1, 1, measure(0, 1)), of(1, 0, measure(0, 0)), of(1, 64, measure(0, 64)), of(1, 1, measure(0, -1)), of(1, 1, reset(1)), of(1, 1, barrier()), of(2, 1, barrier(0, 0)), of(2, 1, barrier(2)),
		of(1, 1, when(1, 0, do(api.GateX, 0))), of(1, 1, when(0, 2, do(api.GateX, 0))), of(1, 1, when(-1, 1, do(api.GateX, 0))), of(1, 1, when(-2, 0, do(api.GateX, 0))), of(1, 1, when(0, 0, barrier(0))), of(1, 64, when(64, 0, do(api.GateX, 0))),
		of(1, 1, api.Op{}), of(1, 1, api.Op{Kind: 5, Qubits: []int{0}, If: -1}), of(0, 0, do(api.GateX, 0)),
		of(1, 1, api.Op{Kind: api.OpBarrier, Gate: api.GateX, Qubits: []int{0}, If: -1}), of(1, 1, api.Op{Kind: api.OpGate, Gate: api.GateX, Qubits: []int{0}, Bit: 1, If: -1}),
		of(2, 0, behind(times(4095, do(api.GateHH, 0, 1)), []api.Op{do(api.GateY, 2)})...),
	}
}

// told is what a call answers: a number, a yes or a no, or strings.
type told struct {
	number  int
	yes     bool
	strings []api.Pauli
}

func (a told) same(b told) bool {
	return a.number == b.number && a.yes == b.yes && slices.Equal(a.strings, b.strings)
}

// call is one of the layer's, with a name. What takes one circuit does without the second.
type call struct {
	name  string
	takes int // how many circuits it takes
	of    func(a, b api.Circuit) (told, api.Errno)
}

func ofNumber(name string, f func(a, b api.Circuit) (int, api.Errno)) call {
	return call{name, 2, func(a, b api.Circuit) (told, api.Errno) {
		n, e := f(a, b)
		return told{number: n}, e
	}}
}

func ofYes(name string, f func(a, b api.Circuit) (bool, api.Errno)) call {
	return call{name, 2, func(a, b api.Circuit) (told, api.Errno) {
		yes, e := f(a, b)
		return told{yes: yes}, e
	}}
}

var (
	phase   = ofNumber("Phase", equal.Phase)
	witness = ofNumber("Witness", equal.Witness)
	images  = call{"Images", 1, func(c, _ api.Circuit) (told, api.Errno) {
		l, e := equal.Images(c)
		return told{strings: l}, e
	}}
	clifford = ofYes("Clifford", equal.Clifford)
	diagonal = call{"Diagonal", 1, func(c, _ api.Circuit) (told, api.Errno) {
		yes, e := equal.Diagonal(c)
		return told{yes: yes}, e
	}}
	tallies = ofYes("Tallies", equal.Tallies)
)

func calls() []call { return []call{phase, witness, images, clifford, diagonal, tallies} }

// asked calls, and takes what was handed in to be as it was.
func (f call) asked(t *testing.T, a, b api.Circuit) (told, api.Errno) {
	t.Helper()
	aheadA, aheadB := deep(a), deep(b)
	answer, e := f.of(a, b)
	if !sameCircuit(a, aheadA) || !sameCircuit(b, aheadB) {
		t.Fatalf("%s: what was handed in was changed", f.name)
	}
	return answer, e
}

// answer is what a call answers that must not refuse.
func (f call) answer(t *testing.T, a, b api.Circuit) told {
	t.Helper()
	answer, e := f.asked(t, a, b)
	if e != api.OK {
		t.Fatalf("%s of %v and %v: error %d", f.name, a, b, e)
	}
	return answer
}

func (f call) want(t *testing.T, a, b api.Circuit, wanted told) {
	t.Helper()
	if answer := f.answer(t, a, b); !answer.same(wanted) {
		t.Errorf("%s of %v and %v: %v, not %v", f.name, a, b, answer, wanted)
	}
}

func (f call) wantNumber(t *testing.T, a, b api.Circuit, wanted int) {
	t.Helper()
	f.want(t, a, b, told{number: wanted})
}

func (f call) wantYes(t *testing.T, a, b api.Circuit, wanted bool) {
	t.Helper()
	f.want(t, a, b, told{yes: wanted})
}

// refuses takes a call to answer an error, and nothing beside it.
func (f call) refuses(t *testing.T, what string, a, b api.Circuit, wanted api.Errno) {
	t.Helper()
	if answer, e := f.asked(t, a, b); e != wanted || !answer.same(told{}) {
		t.Errorf("%s of %s: %v, error %d, not %d", f.name, what, answer, e, wanted)
	}
}
