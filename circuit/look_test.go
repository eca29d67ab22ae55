package circuit_test

import (
	"math"
	"math/rand"
	"slices"
	"testing"

	"phasor/api"
	"phasor/circuit"
)

// anyCircuit need not be one that may be.
func anyCircuit(chance *rand.Rand) api.Circuit {
	number := func() int { return chance.Intn(5) - 2 }
	c := of(number(), number())
	for range chance.Intn(6) {
		op := api.Op{Kind: api.OpKind(number() + 2), Gate: api.GateKind(chance.Intn(25) - 2), Bit: number(), If: number(), When: number()}
		for range chance.Intn(4) {
			op.Qubits = append(op.Qubits, number())
		}
		c.Ops = append(c.Ops, op)
	}
	return c
}

func wantSame(t *testing.T, what string, a, b api.Circuit, wanted bool) {
	t.Helper()
	if circuit.Same(a, b) != wanted || circuit.Same(b, a) != wanted {
		t.Errorf("%s: %s, %s: not %t", what, tell(a), tell(b), wanted)
	}
}

// P8.2: one field that is another is enough, whichever it is.
func TestSame(t *testing.T) {
	chance := rand.New(rand.NewSource(803))
	for range 3000 {
		a := anyCircuit(chance)
		wantSame(t, "itself", a, deep(a), true)
		b := anyCircuit(chance)
		wantSame(t, "two", a, b, alike(a, b))
		for _, turn := range turns(a) {
			b := deep(a)
			turn(&b)
			wantSame(t, "turned", a, b, false)
		}
	}
}

// turns are ways to make another circuit of one.
func turns(c api.Circuit) []func(*api.Circuit) {
	l := []func(*api.Circuit){
		func(c *api.Circuit) { c.Qubits++ },
		func(c *api.Circuit) { c.Bits-- },
		func(c *api.Circuit) { c.Ops = append(c.Ops, api.Op{}) },
	}
	for i := range c.Ops {
		l = append(l,
			func(c *api.Circuit) { c.Ops[i].Kind++ }, func(c *api.Circuit) { c.Ops[i].Gate-- }, func(c *api.Circuit) { c.Ops[i].Bit++ },
			func(c *api.Circuit) { c.Ops[i].If-- }, func(c *api.Circuit) { c.Ops[i].When++ },
			func(c *api.Circuit) { c.Ops[i].Qubits = append(c.Ops[i].Qubits, 0) },
			func(c *api.Circuit) { c.Ops = slices.Delete(c.Ops, i, i+1) })
		for k := range c.Ops[i].Qubits {
			l = append(l, func(c *api.Circuit) { c.Ops[i].Qubits[k]++ }, func(c *api.Circuit) { c.Ops[i].Qubits = slices.Delete(c.Ops[i].Qubits, k, k+1) })
		}
	}
	return l
}

// P8.2, R3: nil and empty lists are the same; of a list its length alone counts.
func TestSameOfEmptyLists(t *testing.T) {
	wantSame(t, "no operations", api.Circuit{}, api.Circuit{Ops: []api.Op{}}, true)
	wantSame(t, "no qubits", of(0, 0, api.Op{}), of(0, 0, api.Op{Qubits: []int{}}), true)
	room := append(make([]int, 0, 9), 1)
	wantSame(t, "room behind", of(2, 0, barrier(room...)), of(2, 0, barrier(1)), true)
	wantSame(t, "another order", of(2, 0, barrier(0, 1)), of(2, 0, barrier(1, 0)), false)
}

// P8.2: a copy is the Same, and what is done to it is not done to what was copied.
func TestCopy(t *testing.T) {
	chance := rand.New(rand.NewSource(804))
	for range 2000 {
		c := anyCircuit(chance)
		kept := deep(c)
		d := circuit.Copy(c)
		wantCircuit(t, "Copy", d, c)
		spoil(d)
		wantCircuit(t, "what was copied", c, kept)
	}
	d := circuit.Copy(api.Circuit{})
	wantNone(t, "Copy of nothing", d)
}

// spoil turns all of a circuit's lists, and what stands behind their ends.
func spoil(c api.Circuit) {
	for i := range c.Ops {
		qubits := c.Ops[i].Qubits[:cap(c.Ops[i].Qubits)]
		for k := range qubits {
			qubits[k] = -77
		}
		c.Ops[i].Kind, c.Ops[i].If = 99, 99
	}
	ops := c.Ops[:cap(c.Ops)]
	for i := range ops {
		ops[i] = api.Op{Kind: 77}
	}
}

// P8.2: numbers and answers of any circuits, counted by the chapter's table.
func TestLooks(t *testing.T) {
	chance := rand.New(rand.NewSource(805))
	for i := range 4000 {
		c := anyCircuit(chance)
		if i%2 == 0 {
			c = someCircuit(chance)
		}
		halves, counts, unitary, clifford := 0, make([]int, 21), true, true
		for _, op := range c.Ops {
			unitary = unitary && (op.Kind == 4 || op.Kind == 1 && op.If == -1)
			if op.Kind != 1 {
				continue
			}
			known := op.Gate >= 1 && op.Gate <= 20
			clifford = clifford && known && !gateLines()[op.Gate].outside
			if known {
				counts[op.Gate]++
			}
			if known && gateLines()[op.Gate].halves {
				halves++
			}
		}
		if n := circuit.Halves(c); n != halves {
			t.Errorf("%s: Halves %d", tell(c), n)
		}
		if l := circuit.Counts(c); !slices.Equal(l, counts) {
			t.Errorf("%s: Counts %v", tell(c), l)
		}
		if circuit.Unitary(c) != unitary || circuit.Clifford(c) != clifford {
			t.Errorf("%s: Unitary %t, Clifford %t", tell(c), !unitary, !clifford)
		}
	}
}

// P8.2: by hand, of each kind, and of none.
func TestLooksByHand(t *testing.T) {
	for k, line := range gateLines() {
		op := api.Op{Kind: api.OpGate, Gate: api.GateKind(k), If: -1}
		c := of(0, 0, op, op, barrier(0))
		halves, counts := 0, make([]int, 21)
		if line.halves {
			halves = 2
		}
		if k > 0 {
			counts[k] = 2
		}
		if circuit.Halves(c) != halves || !slices.Equal(circuit.Counts(c), counts) || !circuit.Unitary(c) || circuit.Clifford(c) != (k > 0 && !line.outside) {
			t.Errorf("%d: %d %v %t %t", k, circuit.Halves(c), circuit.Counts(c), circuit.Unitary(c), circuit.Clifford(c))
		}
		c.Ops[1].If = 0
		if circuit.Unitary(c) {
			t.Errorf("%d: Unitary with a condition", k)
		}
	}
	for _, k := range []api.GateKind{-1, 0, 21, math.MinInt, math.MaxInt} {
		c := of(0, 0, do(k))
		if circuit.Halves(c) != 0 || !slices.Equal(circuit.Counts(c), make([]int, 21)) || !circuit.Unitary(c) || circuit.Clifford(c) {
			t.Errorf("the kind %d", k)
		}
	}
	if c := (api.Circuit{}); circuit.Halves(c) != 0 || len(circuit.Counts(c)) != 21 || !circuit.Unitary(c) || !circuit.Clifford(c) {
		t.Error("no operations")
	}
	for _, op := range []api.Op{measure(0, 0), reset(0), {Kind: 0, Gate: api.GateX, If: -1}, {Kind: 5, Gate: api.GateV, If: -1}} {
		if c := of(1, 1, op); circuit.Unitary(c) || !circuit.Clifford(c) || circuit.Halves(c) != 0 || slices.Max(circuit.Counts(c)) != 0 {
			t.Errorf("kind %d", op.Kind)
		}
	}
	if !circuit.Unitary(of(0, 0, when(3, 7, barrier()))) {
		t.Error("a barrier, whatever stands in it")
	}
}
