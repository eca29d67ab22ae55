package layers_test

import (
	"math"
	"math/rand"
	"slices"
	"testing"

	"phasor/api"
	"phasor/apply"
	"phasor/circuit"
	"phasor/gate"
	"phasor/odds"
	"phasor/plane"
	"phasor/run"
	"phasor/state"
)

// P19.4: early is not behind late; what touches has its order in both.
func TestOrderOfMoments(t *testing.T) {
	chance := rand.New(rand.NewSource(1905))
	for _, c := range samples(chance, 2000) {
		first, last := early.row(t, c), late.row(t, c)
		n := depth.answer(t, c).number
		for j, b := range c.Ops {
			if first[j] > last[j] || last[j] > n || first[j] < 0 || first[j] == 0 && !isBarrier(b) {
				t.Fatalf("%v: from %d to %d of %d", c, first[j], last[j], n)
			}
			for i, a := range c.Ops[:j] {
				apart := 1
				if isBarrier(b) {
					apart = 0
				}
				if slowTouch(a, b) && (first[i]+apart > first[j] || last[i]+apart > last[j]) {
					t.Fatalf("%v: %v %v, %d and %d", c, first, last, i, j)
				}
			}
		}
	}
}

// P19.1: moments told from the end, of the circuit the other way round, are the latest ones: early is as early, and late as late, as can be.
func TestLateIsEarlyTheOtherWayRound(t *testing.T) {
	chance := rand.New(rand.NewSource(1906))
	for _, c := range samples(chance, 2000) {
		last, other, n := late.row(t, c), early.row(t, turned(c)), depth.answer(t, c).number
		slices.Reverse(other)
		for at, op := range c.Ops {
			wanted := n - other[at]
			if !isBarrier(op) {
				wanted++
			}
			if last[at] != wanted {
				t.Fatalf("%v: %v, and %v the other way round", c, last, other)
			}
		}
		depth.want(t, turned(c), nil, told{number: n})
	}
}

// P19.2: each moment's operations have no wire in common; each operation but barriers is in one moment.
func TestMomentsAreWhole(t *testing.T) {
	chance := rand.New(rand.NewSource(1907))
	for _, c := range samples(chance, 2000) {
		count := 0
		for _, l := range moments.answer(t, c).rows {
			count += len(l)
			if len(l) == 0 || !slices.IsSorted(l) {
				t.Fatalf("%v: %v", c, l)
			}
			for i, a := range l {
				for _, b := range l[:i] {
					if slowTouch(c.Ops[a], c.Ops[b]) {
						t.Fatalf("%v: %d and %d at once", c, a, b)
					}
				}
			}
		}
		for _, op := range c.Ops {
			if isBarrier(op) {
				count++
			}
		}
		if count != len(c.Ops) {
			t.Fatalf("%v: %d", c, count)
		}
	}
}

// P19.4: Sorted has the same depth, the same moments, and is its own answer.
func TestSortedHasTheSameDepth(t *testing.T) {
	chance := rand.New(rand.NewSource(1908))
	changed := 0
	for _, c := range samples(chance, 2000) {
		d := sorted.answer(t, c).circuit
		depth.want(t, d, nil, depth.answer(t, c))
		wanted := early.row(t, c)
		slices.Sort(wanted)
		early.wantRow(t, d, wanted)
		sorted.wantCircuit(t, d, d)
		if !sameCircuit(c, d) {
			changed++
		}
	}
	if changed < 1000 {
		t.Error("too few were sorted anew:", changed)
	}
}

// P19.3: a past the other way round is a future; more qubits have at least as much of both; all have all.
func TestPastAndFutureTheOtherWayRound(t *testing.T) {
	chance := rand.New(rand.NewSource(1909))
	for _, c := range samples(chance, 2000) {
		qubits := some(chance, c)
		wanted := past.row(t, turned(c), qubits...)
		for i := range wanted {
			wanted[i] = len(c.Ops) - 1 - wanted[i]
		}
		slices.Reverse(wanted)
		future.wantRow(t, c, wanted, qubits...)
		kept := prune.answer(t, c, qubits...).circuit
		prune.wantCircuit(t, kept, kept, qubits...)
		past.wantRow(t, kept, upTo(len(kept.Ops)), qubits...)
		var gates []int
		for at, op := range c.Ops {
			if !isBarrier(op) {
				gates = append(gates, at)
			}
		}
		past.wantRow(t, c, gates, chance.Perm(c.Qubits)...)
		future.wantRow(t, c, gates, chance.Perm(c.Qubits)...)
	}
}

func same(a, b []complex128) bool { return slices.EqualFunc(a, b, plane.Same) }

// basis is a basis state, by hand.
func basis(n, k int) []complex128 {
	s := make([]complex128, 1<<n)
	s[k] = 1
	return s
}

// drawnState is one that is exact with at most so many halves, with a weight above 0 of at most 1: what gates make of a basis state, what is left of it when a qubit has been projected, or parts at chance that are small enough.
func drawnState(t *testing.T, chance *rand.Rand, n, halves int) []complex128 {
	t.Helper()
	for {
		s := basis(n, chance.Intn(1<<n))
		if chance.Intn(3) == 0 {
			s = smallParts(chance, n, halves)
		} else {
			w := wish{qubits: n, halves: halves}
			for range 3*n + 2*halves {
				s, _, _ = apply.Ops(s, []api.Op{w.gate(chance, chance.Perm(n))})
			}
			if chance.Intn(2) == 0 {
				s, _ = odds.Project(s, chance.Intn(n), chance.Intn(2))
			}
		}
		weight, e := state.Weight(s)
		if e != api.OK || weight > 1 || !state.Exact(s, halves) {
			t.Fatal("no such state:", weight, s)
		}
		if weight > 0 {
			return s
		}
	}
}

// smallParts has multiples of 2^-halves whose squares are together at most 1.
func smallParts(chance *rand.Rand, n, halves int) []complex128 {
	most := int(math.Ldexp(1, halves-(n+2)/2)) // 0, if there is none but 0
	part := func() float64 { return math.Ldexp(float64(chance.Intn(2*most+1)-most), -halves) }
	s := make([]complex128, 1<<n)
	for k := range s {
		s[k] = complex(part(), part())
	}
	return s
}

// anyState has parts of all classes.
func anyState(chance *rand.Rand, n int) []complex128 {
	part := func() float64 {
		l := []float64{0, math.Copysign(0, -1), 1, -1, math.NaN(), math.Inf(1), math.Inf(-1), 5e-324, -5e-324, math.MaxFloat64, chance.NormFloat64(), math.Float64frombits(chance.Uint64())}
		return l[chance.Intn(len(l))]
	}
	s := make([]complex128, 1<<n)
	for k := range s {
		s[k] = complex(part(), part())
	}
	return s
}

// ran is the state that a unitary circuit comes to.
func ran(t *testing.T, c api.Circuit, s []complex128) []complex128 {
	t.Helper()
	m, e := run.From(c, s, make([]int, c.Bits))
	if e != api.OK {
		t.Fatal("From:", e)
	}
	if _, e := m.Run(nil); e != api.OK {
		t.Fatal("Run:", e)
	}
	return m.State()
}

// unitary is a circuit of gates and barriers at chance.
func unitary(t *testing.T, chance *rand.Rand, n, ops, halves int) api.Circuit {
	t.Helper()
	c := wish{qubits: n, ops: ops, halves: halves, barriers: 1 + chance.Intn(4)}.drawn(chance)
	if !circuit.Unitary(c) || circuit.Halves(c) > halves {
		t.Fatal("not unitary, or too many halves:", c)
	}
	return c
}

// P19.4: Sorted does what a unitary circuit does, from exact states with as many halves as are left.
func TestSortedDoesTheSame(t *testing.T) {
	chance := rand.New(rand.NewSource(1910))
	changed := 0
	for i := range 800 {
		n := 1 + chance.Intn(5)
		if i%40 == 0 {
			n = 6 + chance.Intn(5)
		}
		c := unitary(t, chance, n, chance.Intn(60), chance.Intn(25))
		d := sorted.answer(t, c).circuit
		s := drawnState(t, chance, n, api.MaxHalves-circuit.Halves(c))
		if x, y := ran(t, c, s), ran(t, d, s); !same(x, y) {
			t.Fatalf("%v of %v, not %v of %v", y, d, x, c)
		}
		if !sameCircuit(c, d) {
			changed++
		}
	}
	if changed < 300 {
		t.Error("too few were sorted anew:", changed)
	}
}

// P19.4: and from any state whatever, if no gate halves.
func TestSortedDoesTheSameToAnyState(t *testing.T) {
	chance := rand.New(rand.NewSource(1911))
	for range 800 {
		n := 1 + chance.Intn(5)
		c := unitary(t, chance, n, chance.Intn(60), 0)
		d := sorted.answer(t, c).circuit
		s := anyState(chance, n)
		x, _, e := apply.Ops(s, c.Ops)
		y, _, f := apply.Ops(s, d.Ops)
		if e != api.OK || f != api.OK || !same(x, y) {
			t.Fatalf("%v of %v, not %v of %v", y, d, x, c)
		}
	}
}

// P19.4: what qubits weigh is what they weigh at the end of Prune.
func TestPruneWeighsTheSame(t *testing.T) {
	chance := rand.New(rand.NewSource(1912))
	left := 0
	for i := range 4000 {
		n := 1 + chance.Intn(6)
		if i%40 == 0 {
			n = 7 + chance.Intn(4)
		}
		c := unitary(t, chance, n, chance.Intn(3*n), chance.Intn(25))
		s := drawnState(t, chance, n, api.MaxHalves-circuit.Halves(c))
		qubits := some(chance, c)
		d := prune.answer(t, c, qubits...).circuit
		x, e := odds.Marginal(ran(t, c, s), qubits)
		y, f := odds.Marginal(ran(t, d, s), qubits)
		if e != api.OK || f != api.OK || !slices.Equal(x, y) {
			t.Fatalf("%v of %v, not %v of %v", y, d, x, c)
		}
		for _, op := range c.Ops {
			if !isBarrier(op) {
				left++
			}
		}
		left -= len(d.Ops)
	}
	if left < 2000 {
		t.Error("too few were left out:", left)
	}
}

// R4: the same call answers the same; what was asked ahead of it turns nothing.
func TestCallsAreAlone(t *testing.T) {
	chance := rand.New(rand.NewSource(1913))
	l := samples(chance, 200)
	for _, f := range calls() {
		var first []told
		for _, c := range l {
			first = append(first, f.answer(t, c, 0).copied())
		}
		for i := len(l) - 1; i >= 0; i-- {
			f.want(t, l[i], []int{0}, first[i])
		}
	}
}

// FuzzLayers is P19.1 to P19.3 of circuits that come from bytes, which need not be right: against the slow way.
func FuzzLayers(f *testing.F) {
	f.Add([]byte{2, 0, 0, 0, 11, 0, 1, 0, 2, 2, 0, 0, 43, 1, 2, 0, 2, 2, 0, 0}, 3, 0, []byte{2})
	f.Add([]byte{41, 0, 0, 0, 130, 1, 0, 0, 42, 1, 0, 0, 2, 1, 0, 0}, 2, 1, []byte{1, 0})
	f.Add([]byte{43, 0, 1, 0, 13, 1, 0, 0, 19, 1, 2, 0, 4, 0, 0, 0, 41, 2, 1, 0}, 3, 2, []byte{})
	f.Add([]byte{18, 63, 1, 2, 11, 61, 3, 0, 107, 1, 0, 0}, 64, 3, []byte{63, 64})
	f.Add([]byte{2, 0, 0, 0}, 1, 0, []byte{0, 0})
	f.Fuzz(func(t *testing.T, l []byte, qubits, bits int, numbers []byte) {
		c := of(qubits%66, bits%66)
		for at := 0; at+4 <= len(l) && len(c.Ops) < 100; at += 4 {
			c.Ops = append(c.Ops, byteOp([4]byte(l[at:])))
		}
		var asked []int
		wrong := api.OK
		for _, b := range numbers {
			q := int(b) - 1
			if q < 0 || q >= c.Qubits || slices.Contains(asked, q) {
				wrong = api.ErrLayers
			}
			asked = append(asked, q)
		}
		if _, e := circuit.Check(c); e != api.OK {
			for _, f := range calls() {
				f.refuses(t, "what may not be", c, asked, api.ErrCircuit)
			}
			return
		}
		wanted := slowTold(c, asked)
		for _, f := range calls() {
			if f.takes && wrong != api.OK {
				f.refuses(t, "wrong qubits", c, asked, wrong)
			} else {
				f.want(t, c, asked, wanted[f.name])
			}
		}
	})
}

// byteOp is an operation of four bytes: the first says what, and whether there is a condition; the others are qubits, or a bit.
func byteOp(b [4]byte) api.Op {
	p, q, r := int(b[1]), int(b[2]), int(b[3])
	switch what := int(b[0]); {
	case what%64 == 41:
		return measure(p, q)
	case what%64 == 42:
		return reset(p)
	case what%64 == 43:
		return barrier(p, q)
	case what >= 128:
		return when(r%4, what%2, byteGate(what%22, p, q, r))
	default:
		return byteGate(what%22, p, q, r)
	}
}

func byteGate(k int, qubits ...int) api.Op {
	return do(api.GateKind(k), qubits[:min(gate.Arity(api.GateKind(k)), 3)]...)
}
