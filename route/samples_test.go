package route_test

import (
	"math"
	"math/rand"
	"slices"
	"strconv"
	"strings"
	"testing"

	"phasor/api"
	"phasor/gate"
)

const (
	least = math.MinInt
	great = math.MaxInt
)

// Operations in short.

func do(k api.GateKind, qubits ...int) api.Op {
	return api.Op{Kind: api.OpGate, Gate: k, Qubits: qubits, If: -1}
}

func when(bit, value int, op api.Op) api.Op {
	op.If, op.When = bit, value
	return op
}

func measure(qubit, bit int) api.Op {
	return api.Op{Kind: api.OpMeasure, Qubits: []int{qubit}, Bit: bit, If: -1}
}

func reset(qubit int) api.Op {
	return api.Op{Kind: api.OpReset, Qubits: []int{qubit}, If: -1}
}

func barrier(qubits ...int) api.Op {
	return api.Op{Kind: api.OpBarrier, Qubits: qubits, If: -1}
}

func of(qubits, bits int, ops ...api.Op) api.Circuit {
	return api.Circuit{Qubits: qubits, Bits: bits, Ops: ops}
}

// times is a row of operations so many times.
func times(n int, ops ...api.Op) []api.Op { return slices.Repeat(ops, n) }

// behind is rows of operations one behind the other.
func behind(rows ...[]api.Op) []api.Op { return slices.Concat(rows...) }

// first is the numbers from 0 to below n.
func first(n int) []int {
	l := make([]int, n)
	for i := range l {
		l[i] = i
	}
	return l
}

// ops reads operations as the chapter's examples write them: "x 0; measure 0 -> 1; if 1 0 cx 0 1".
func ops(t *testing.T, text string) []api.Op {
	t.Helper()
	var l []api.Op
	for part := range strings.SplitSeq(text, ";") {
		words := strings.Fields(strings.ReplaceAll(part, "->", ""))
		if len(words) > 0 {
			l = append(l, opOf(t, words))
		}
	}
	return l
}

func opOf(t *testing.T, words []string) api.Op {
	t.Helper()
	if words[0] == "if" {
		l := numbers(t, words[1:3])
		return when(l[0], l[1], opOf(t, words[3:]))
	}
	l := numbers(t, words[1:])
	switch words[0] {
	case "measure":
		return measure(l[0], l[1])
	case "reset":
		return reset(l[0])
	case "barrier":
		return barrier(l...)
	}
	k, e := gate.Of(words[0])
	if e != api.OK {
		t.Fatal("no gate:", words[0])
	}
	return do(k, l...)
}

func numbers(t *testing.T, words []string) []int {
	t.Helper()
	l := []int{}
	for _, s := range words {
		n, err := strconv.Atoi(s)
		if err != nil {
			t.Fatal(err)
		}
		l = append(l, n)
	}
	return l
}

// row reads numbers.
func row(t *testing.T, s string) []int {
	t.Helper()
	return numbers(t, strings.Fields(s))
}

// pairs reads pairs: "0 1, 1 2".
func pairs(t *testing.T, s string) [][2]int {
	t.Helper()
	l := [][2]int{}
	for part := range strings.SplitSeq(s, ",") {
		if r := row(t, part); len(r) > 0 {
			l = append(l, [2]int{r[0], r[1]})
		}
	}
	return l
}

// sketch is a map of n places with such pairs.
func sketch(t *testing.T, n int, s string) api.Coupling {
	t.Helper()
	return api.Coupling{N: n, Pairs: pairs(t, s)}
}

// chain is a line, by hand.
func chain(n int) api.Coupling {
	m := api.Coupling{N: n}
	for place := 1; place < n; place++ {
		m.Pairs = append(m.Pairs, [2]int{place - 1, place})
	}
	return m
}

// wheel is a ring, by hand.
func wheel(n int) api.Coupling {
	m := chain(n)
	m.Pairs = append(m.Pairs, [2]int{n - 1, 0})
	return m
}

// star has one place in the middle.
func star(n, middle int) api.Coupling {
	m := api.Coupling{N: n}
	for place := range n {
		if place != middle {
			m.Pairs = append(m.Pairs, [2]int{place, middle})
		}
	}
	return m
}

// thick has all pairs.
func thick(n int) api.Coupling {
	m := api.Coupling{N: n}
	for a := range n {
		for b := range a {
			m.Pairs = append(m.Pairs, [2]int{a, b})
		}
	}
	return m
}

// drawnMap is a right map of n places at chance: a tree whose places are mixed, and some pairs more; some stand there twice, or turned round.
func drawnMap(chance *rand.Rand, n int) api.Coupling {
	m, mixed := api.Coupling{N: n}, chance.Perm(n)
	put := func(a, b int) {
		for range 1 + chance.Intn(8)/6 {
			if chance.Intn(2) == 0 {
				a, b = b, a
			}
			m.Pairs = append(m.Pairs, [2]int{a, b})
		}
	}
	reach := 1 + chance.Intn(n)
	for i := 1; i < n; i++ {
		put(mixed[i], mixed[i-1-chance.Intn(min(i, reach))])
	}
	for range chance.Intn(1+n/2) * chance.Intn(3) {
		if a, b := chance.Intn(n), chance.Intn(n); a != b {
			put(a, b)
		}
	}
	chance.Shuffle(len(m.Pairs), func(i, j int) { m.Pairs[i], m.Pairs[j] = m.Pairs[j], m.Pairs[i] })
	return m
}

// maps are right ones: of all shapes, and at chance.
func maps(chance *rand.Rand, n int) []api.Coupling {
	l := []api.Coupling{{N: 1}, {N: 1, Pairs: [][2]int{}}, chain(2), chain(3), chain(7), chain(64), wheel(3), wheel(8), wheel(64), star(5, 0), star(6, 3), star(64, 63), thick(4), thick(12), thick(64)}
	for i := range n {
		most := 10
		if i%5 == 0 {
			most = 64
		}
		l = append(l, drawnMap(chance, 1+chance.Intn(most)))
	}
	return l
}

// wrongMaps are none.
func wrongMaps(t *testing.T) []api.Coupling {
	t.Helper()
	l := []api.Coupling{
		{}, {N: -1}, {N: least}, {N: great}, chain(65), wheel(65), {N: 0, Pairs: [][2]int{{0, 1}}}, {N: 2}, {N: 64}, {N: 65}, {N: 128, Pairs: chain(128).Pairs}, {N: -3, Pairs: chain(3).Pairs}, {N: 63, Pairs: chain(64).Pairs}, {N: 64, Pairs: chain(63).Pairs},
		sketch(t, 1, "0 0"), sketch(t, 1, "0 1"), sketch(t, 1, "-1 0"), sketch(t, 2, "0 0"), sketch(t, 2, "0 1, 1 1"), sketch(t, 2, "0 0, 0 1"), sketch(t, 2, "0 1, 1 0, 0 0"),
		sketch(t, 3, "0 1"), sketch(t, 3, "1 2"), sketch(t, 3, "0 2"), sketch(t, 3, "0 1, 1 0, 0 1"), sketch(t, 3, "0 1, 1 2, 2 3"), sketch(t, 3, "0 1, 1 2, 3 2"), sketch(t, 3, "0 1, 1 2, 2 -1"), sketch(t, 3, "0 1, 1 2, -1 2"), sketch(t, 3, "0 1, 1 2, 2 2"),
		sketch(t, 4, "0 1, 2 3"), sketch(t, 4, "1 2, 2 3, 3 1"), sketch(t, 4, "0 1, 1 2, 2 0"), sketch(t, 6, "0 1, 1 2, 2 0, 3 4, 4 5, 5 3"),
		{N: 3, Pairs: [][2]int{{0, 1}, {1, 2}, {0, great}}}, {N: 3, Pairs: [][2]int{{0, 1}, {1, 2}, {least, 0}}}, {N: 3, Pairs: [][2]int{{great, great}, {0, 1}, {1, 2}}}, {N: 3, Pairs: [][2]int{{0, 1}, {1, 2}, {64, 65}}},
	}
	for place := range 64 {
		apart := api.Coupling{N: 64}
		for _, p := range thick(64).Pairs {
			if p[0] != place && p[1] != place {
				apart.Pairs = append(apart.Pairs, p)
			}
		}
		l = append(l, apart)
	}
	return l
}

// wish is what a circuit at chance may have at most; a count that is used up is not drawn again.
type wish struct {
	qubits, bits, ops, halves, measures int
}

// drawn is a circuit at chance without gates of three qubits, of just so many qubits, bits and operations.
func (w wish) drawn(chance *rand.Rand) api.Circuit {
	c := of(w.qubits, w.bits)
	for range w.ops {
		if w.qubits > 0 {
			c.Ops = append(c.Ops, w.op(chance))
		}
	}
	return c
}

func (w *wish) op(chance *rand.Rand) api.Op {
	mixed := chance.Perm(w.qubits)
	switch draw := chance.Intn(30); {
	case draw < 4 && w.measures > 0 && w.bits > 0:
		w.measures--
		return measure(mixed[0], chance.Intn(w.bits))
	case draw < 6 && w.measures > 0:
		w.measures--
		return reset(mixed[0])
	case draw < 8:
		return barrier(slices.Clone(mixed[:1+chance.Intn(w.qubits)])...)
	}
	op := w.gate(chance, mixed)
	if w.bits > 0 && chance.Intn(4) == 0 {
		return when(chance.Intn(w.bits), chance.Intn(2), op)
	}
	return op
}

// gate is one on some of these qubits; most are of two, if there are two.
func (w *wish) gate(chance *rand.Rand, qubits []int) api.Op {
	arity := 1
	if len(qubits) > 1 && chance.Intn(3) > 0 {
		arity = 2
	}
	for {
		k := gate.Kinds()[chance.Intn(len(gate.Kinds()))]
		if gate.Arity(k) != arity || gate.Halving(k) && w.halves == 0 {
			continue
		}
		if gate.Halving(k) {
			w.halves--
		}
		return do(k, slices.Clone(qubits[:arity])...)
	}
}

// drawnFor is a circuit at chance that may be laid onto a map of n places.
func drawnFor(chance *rand.Rand, n int) api.Circuit {
	w := wish{qubits: chance.Intn(n + 1), bits: chance.Intn(5), ops: chance.Intn(25), halves: 50, measures: chance.Intn(8)}
	if chance.Intn(3) > 0 {
		w.qubits = n
	}
	return w.drawn(chance)
}

// wrongCircuits may not be.
func wrongCircuits() []api.Circuit {
	return []api.Circuit{
		of(-1, 0), of(65, 0), of(1, -1), of(1, 65), of(great, great), of(least, 0), of(64, 65), of(65, 64),
		of(1, 1, times(4097, do(api.GateX, 0))...), of(1, 1, times(4097, barrier(0))...),
		of(1, 1, do(api.GateX, 1)), of(1, 1, do(api.GateX, -1)), of(1, 1, do(21, 0)), of(1, 1, do(0, 0)), of(1, 1, do(-1, 0)), of(1, 1, do(great, 0)), of(1, 1, do(least, 0)),
		of(2, 1, do(api.GateCX, 0)), of(2, 1, do(api.GateCX, 1, 1)), of(2, 1, do(api.GateX, 0, 1)), of(1, 1, do(api.GateY)), of(3, 0, do(api.GateCCZ, 0, 1)), of(3, 0, do(api.GateCX, 0, 1, 2)), of(2, 0, do(api.GateCX, 0, 2)), of(2, 0, do(api.GateCX, 0, great)),
		of(1, 1, do(api.GateX, 0), do(api.GateX, 64)), of(64, 1, do(api.GateX, 64)), of(64, 1, do(api.GateX, 63), do(api.GateX, great)), of(64, 1, do(api.GateX, 128)),
		of(1, 1, measure(1, 0)), of(1, 1, measure(0, 1)), of(1, 0, measure(0, 0)), of(1, 64, measure(0, 64)), of(1, 1, measure(0, -1)), of(1, 1, reset(1)), of(1, 1, barrier()), of(2, 1, barrier(0, 0)), of(2, 1, barrier(2)),
		of(1, 1, when(1, 0, do(api.GateX, 0))), of(1, 1, when(0, 2, do(api.GateX, 0))), of(1, 1, when(-1, 1, do(api.GateX, 0))), of(1, 1, when(-2, 0, do(api.GateX, 0))), of(1, 1, when(0, 0, barrier(0))), of(1, 64, when(64, 0, do(api.GateX, 0))),
		of(1, 1, api.Op{}), of(1, 1, api.Op{Kind: 5, Qubits: []int{0}, If: -1}), of(0, 0, do(api.GateX, 0)),
		of(1, 1, api.Op{Kind: api.OpBarrier, Gate: api.GateX, Qubits: []int{0}, If: -1}), of(1, 1, api.Op{Kind: api.OpGate, Gate: api.GateX, Qubits: []int{0}, Bit: 1, If: -1}),
		of(2, 0, behind(times(4095, do(api.GateHH, 0, 1)), []api.Op{do(api.GateY, 2)})...),
		of(4, 0, do(api.GateCCX, 0, 1, 2), do(api.GateX, 4)), of(4, 0, do(api.GateCCX, 0, 1, 1)),
	}
}

// deep is a copy by hand.
func deep(c api.Circuit) api.Circuit {
	d := of(c.Qubits, c.Bits)
	for _, op := range c.Ops {
		op.Qubits = append([]int{}, op.Qubits...)
		d.Ops = append(d.Ops, op)
	}
	return d
}

func deepMap(m api.Coupling) api.Coupling {
	return api.Coupling{N: m.N, Pairs: append([][2]int{}, m.Pairs...)}
}

func deepRouted(r api.Routed) api.Routed {
	return api.Routed{Circuit: deep(r.Circuit), Place: append([]int{}, r.Place...), Swaps: r.Swaps}
}

func sameOp(a, b api.Op) bool {
	return a.Kind == b.Kind && a.Gate == b.Gate && slices.Equal(a.Qubits, b.Qubits) && a.Bit == b.Bit && a.If == b.If && a.When == b.When
}

func sameCircuit(a, b api.Circuit) bool {
	return a.Qubits == b.Qubits && a.Bits == b.Bits && slices.EqualFunc(a.Ops, b.Ops, sameOp)
}

func sameMap(a, b api.Coupling) bool { return a.N == b.N && slices.Equal(a.Pairs, b.Pairs) }

func sameRouted(a, b api.Routed) bool {
	return sameCircuit(a.Circuit, b.Circuit) && slices.Equal(a.Place, b.Place) && a.Swaps == b.Swaps
}

func sameRows(a, b [][]int) bool { return slices.EqualFunc(a, b, slices.Equal[[]int]) }
