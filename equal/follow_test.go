package equal_test

import (
	"math/rand"
	"slices"
	"testing"

	"phasor/api"
	"phasor/circuit"
	"phasor/invert"
	"phasor/layers"
)

// P21.6: Phase is 0 just if there is no Witness; what Phase finds of Clifford circuits, Clifford finds.
func TestPhaseAndWitness(t *testing.T) {
	chance := rand.New(rand.NewSource(2108))
	seen := map[int]int{}
	for i := range 1500 {
		a := wish{qubits: chance.Intn(7), ops: chance.Intn(14), halves: 14, clifford: i%2 == 0}.drawn(chance)
		b := kin(chance, a)
		k := phase.answer(t, a, b).number
		if w := witness.answer(t, a, b).number; (k == 0) != (w == -1) {
			t.Fatalf("%v, %v: phase %d, witness %d", a, b, k, w)
		}
		if k != -1 && circuit.Clifford(a) {
			seen[k]++
			clifford.wantYes(t, a, b, true)
		}
	}
	for k := range 4 {
		if seen[k] < 50 {
			t.Error(k, "came up too seldom:", seen)
		}
	}
}

// multiples tells whether all columns are those of the other, times one number: it is looked for where the other has an entry that is not nought.
func multiples(a, b [][]complex128) bool {
	x, y := slices.Concat(a...), slices.Concat(b...)
	at := slices.IndexFunc(y, func(z complex128) bool { return z != 0 })
	for i := range x {
		if x[i]*y[at] != x[at]*y[i] {
			return false
		}
	}
	return x[at] != 0
}

// P21.6: circuits that Clifford takes for one, and that halve as often, have matrices that are multiples of one another; others have not.
func TestCliffordAndMatrices(t *testing.T) {
	chance := rand.New(rand.NewSource(2109))
	seen := map[bool]int{}
	for i := range 1500 {
		a := wish{qubits: 1 + chance.Intn(3), ops: chance.Intn(14), halves: 6, clifford: true}.drawn(chance)
		b := kin(chance, a)
		if i%3 == 0 { // another row of gates, on few qubits: some do the same by chance
			a = wish{qubits: 1, ops: 6, halves: 2, clifford: true}.drawn(chance)
			b = wish{qubits: 1, ops: 6, halves: 2, clifford: true}.drawn(chance)
		}
		if i%50 == 0 {
			a = wish{qubits: 4 + chance.Intn(3), ops: 14, halves: 6, clifford: true}.drawn(chance)
			b = kin(chance, a)
		}
		if circuit.Halves(a) != circuit.Halves(b) {
			continue
		}
		same := clifford.answer(t, a, b).yes
		if same != multiples(columns(a, slowColumn), columns(b, slowColumn)) {
			t.Fatalf("%v, %v: %v", a, b, same)
		}
		seen[same]++
	}
	if seen[true] < 150 || seen[false] < 150 {
		t.Error("too few:", seen)
	}
}

// sortedOf is layer 19's.
func sortedOf(t *testing.T, c api.Circuit) api.Circuit {
	t.Helper()
	d, e := layers.Sorted(c)
	if e != api.OK {
		t.Fatal(e)
	}
	return d
}

// P21.6: a circuit has the tallies of its Sorted one, whatever is measured in it, and of itself.
func TestTalliesOfSorted(t *testing.T) {
	chance := rand.New(rand.NewSource(2110))
	moved := 0
	for range 800 {
		c := wish{qubits: 1 + chance.Intn(6), bits: chance.Intn(5), ops: chance.Intn(40), halves: api.MaxHalves, measures: chance.Intn(12), asks: true}.drawn(chance)
		d := sortedOf(t, c)
		tallies.wantYes(t, c, d, true)
		tallies.wantYes(t, d, c, true)
		tallies.wantYes(t, c, c, true)
		if !sameCircuit(c, d) {
			moved++
		}
	}
	if moved < 400 {
		t.Error("too few are sorted anew:", moved)
	}
}

// P21.6: a circuit is the same as itself, as its Sorted one, as the Inverse of its Inverse.
func TestTheSameAsItself(t *testing.T) {
	chance := rand.New(rand.NewSource(2111))
	for i := range 400 {
		c := wish{qubits: chance.Intn(7), bits: chance.Intn(2), ops: chance.Intn(30), halves: api.MaxHalves, clifford: i%2 == 0}.drawn(chance)
		once, _ := invert.Inverse(c)
		twice, e := invert.Inverse(once)
		if e != api.OK {
			t.Fatal(e)
		}
		for _, d := range []api.Circuit{c, sortedOf(t, c), twice} {
			phase.wantNumber(t, c, d, 0)
			witness.wantNumber(t, c, d, -1)
			tallies.wantYes(t, c, d, true)
			if circuit.Clifford(c) {
				clifford.wantYes(t, c, d, true)
			}
		}
	}
	for i := range 4 {
		c := wish{qubits: 7 + i, ops: 20, halves: 20}.drawn(chance)
		witness.wantNumber(t, c, c, -1)
		witness.wantNumber(t, c, sortedOf(t, c), -1)
	}
	for range 20 {
		c := wish{qubits: 64, ops: 200, halves: api.MaxHalves, clifford: true}.drawn(chance)
		once, _ := invert.Inverse(c)
		twice, _ := invert.Inverse(once)
		clifford.wantYes(t, c, sortedOf(t, c), true)
		clifford.wantYes(t, c, twice, true)
		clifford.wantYes(t, of(64, 0, behind(c.Ops, once.Ops)...), of(64, 0), true)
	}
}

// FuzzEqual holds the calls against the chapter written a second time, of circuits of a few bytes.
func FuzzEqual(f *testing.F) {
	f.Add([]byte{2, 0, 0, 0, 4, 0, 0, 0}, []byte{3, 0, 0, 0}, 1, 0)
	f.Add([]byte{11, 0, 1, 0, 17, 1, 0, 0}, []byte{43, 0, 1, 0, 13, 1, 0, 0}, 2, 1)
	f.Add([]byte{7, 0, 0, 0, 41, 0, 0, 0}, []byte{9, 0, 0, 0, 41, 0, 0, 0}, 1, 1)
	f.Add([]byte{18, 0, 1, 2, 42, 1, 0, 0}, []byte{130, 1, 0, 0}, 3, 2)
	f.Add([]byte{2, 9, 0, 0}, []byte{}, 1, 65)
	f.Fuzz(func(t *testing.T, la, lb []byte, qubits, bits int) {
		a, b := byteCircuit(la, qubits, bits), byteCircuit(lb, qubits, bits)
		broken := mayNotBe(a) || mayNotBe(b)
		for _, f := range calls() {
			switch wanted, fits := slowTold(f, a, b); {
			case f.takes == 1 && mayNotBe(a) || f.takes == 2 && broken:
				f.refuses(t, "what may not be", a, b, api.ErrCircuit)
			case !fits:
				f.refuses(t, "what does not fit", a, b, api.ErrEqual)
			default:
				f.want(t, a, b, wanted)
			}
		}
	})
}

func mayNotBe(c api.Circuit) bool {
	_, e := circuit.Check(c)
	return e != api.OK
}

// byteCircuit is one of at most 20 operations, four bytes each, and of at most six qubits, or one that may not be.
func byteCircuit(l []byte, qubits, bits int) api.Circuit {
	c := of(qubits%7, bits%66)
	for at := 0; at+4 <= len(l) && len(c.Ops) < 20; at += 4 {
		c.Ops = append(c.Ops, byteOp([4]byte(l[at:])))
	}
	return c
}

// byteOp is an operation of four bytes: the first says what, and whether there is a condition; the others are qubits, or a bit.
func byteOp(b [4]byte) api.Op {
	p, q, r := int(b[1]), int(b[2]), int(b[3])
	switch what := int(b[0]); {
	case what == 41:
		return measure(p, q)
	case what == 42:
		return reset(p)
	case what == 43:
		return barrier(p, q)
	case what >= 128:
		return when(r%8, q%2, byteGate(what-128, p, q, r))
	default:
		return byteGate(what, p, q, r)
	}
}

func byteGate(k int, qubits ...int) api.Op {
	arity := 1
	switch {
	case k > 17:
		arity = 3
	case k > 10:
		arity = 2
	}
	return do(api.GateKind(k), qubits[:arity]...)
}

// slowTold is what a call must answer of circuits that may be, and whether it takes them. They halve so seldom that nothing is rounded.
func slowTold(f call, a, b api.Circuit) (told, bool) {
	if mayNotBe(a) || f.takes == 2 && mayNotBe(b) {
		return told{}, false
	}
	plain := slowUnitary(a) && (f.takes == 1 || slowUnitary(b))
	switch f.name {
	case "Phase":
		return told{number: plainNumber(plain, slowPhase, a, b)}, plain
	case "Witness":
		return told{number: plainNumber(plain, slowWitness, a, b)}, plain
	case "Diagonal":
		return told{yes: plain && slowDiagonal(columns(a, slowColumn))}, plain
	case "Images":
		fits := plain && slowClifford(a)
		if !fits {
			return told{}, false
		}
		return told{strings: tableauImages(a)}, true
	case "Clifford":
		fits := plain && slowClifford(a) && slowClifford(b)
		return told{yes: fits && slices.Equal(tableauImages(a), tableauImages(b))}, fits
	}
	fits := slowMeasurements(a) <= 12 && slowMeasurements(b) <= 12
	return told{yes: fits && slowTallies(a, b)}, fits
}

func plainNumber(plain bool, f func(a, b [][]complex128) int, a, b api.Circuit) int {
	if !plain {
		return 0
	}
	return f(columns(a, slowColumn), columns(b, slowColumn))
}

func slowUnitary(c api.Circuit) bool {
	for _, op := range c.Ops {
		if op.Kind == api.OpMeasure || op.Kind == api.OpReset || op.If >= 0 {
			return false
		}
	}
	return true
}

func slowClifford(c api.Circuit) bool {
	for _, op := range c.Ops {
		if op.Gate >= api.GateCCX {
			return false
		}
	}
	return true
}

func slowMeasurements(c api.Circuit) int {
	n := 0
	for _, op := range c.Ops {
		if op.Kind == api.OpMeasure || op.Kind == api.OpReset {
			n++
		}
	}
	return n
}
