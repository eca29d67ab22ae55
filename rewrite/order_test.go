package rewrite_test

import (
	"math/rand"
	"slices"
	"testing"

	"phasor/api"
	"phasor/circuit"
	"phasor/rewrite"
)

// P18.3: by what operations are compared, one thing behind the other.
func TestOrder(t *testing.T) {
	order.wantText(t, "barrier 0; reset 1; x 2; measure 3 -> 0", "x 2; reset 1; measure 3 -> 0; barrier 0")
	order.wantText(t, "barrier 0; measure 1 -> 0; x 2", "x 2; measure 1 -> 0; barrier 0")
	order.wantText(t, "barrier 0; reset 1", "reset 1; barrier 0")
	order.wantText(t, "cswap 0 1 2; s 3; x 4", "x 4; s 3; cswap 0 1 2")
	order.wantText(t, "cx 3 0; cx 2 1", "cx 2 1; cx 3 0")
	order.wantText(t, "cx 1 3; cx 0 4", "cx 0 4; cx 1 3")
	order.wantText(t, "barrier 1; barrier 0 4 3", "barrier 0 4 3; barrier 1")
	order.wantText(t, "cx 1 0; cx 3 2; cx 2 3", "cx 1 0; cx 3 2; cx 2 3")
	// By qubits ahead of conditions; the condition is by its bit, then by its number.
	order.wantText(t, "if 0 0 x 1; if 2 1 x 0", "if 2 1 x 0; if 0 0 x 1")
	order.wantText(t, "x 1; if 0 1 x 0", "if 0 1 x 0; x 1")
	order.stays(t, "if 2 1 x 0; if 0 0 x 0")
	order.stays(t, "if 1 1 x 0; if 1 0 x 0")
	order.stays(t, "x 0; x 0")
}

// P18.3: what touches what is left ahead waits for it, and what it was waited for comes as soon as it is the least.
func TestOrderWaits(t *testing.T) {
	order.stays(t, "z 0; x 0")
	order.wantText(t, "z 0; x 0; y 1", "y 1; z 0; x 0")
	order.wantText(t, "z 0; x 0; s 1", "z 0; x 0; s 1")
	order.wantText(t, "s 1; z 0; x 0", "z 0; x 0; s 1")
	order.wantText(t, "cx 3 4; cz 0 1; x 1; id 2", "id 2; cx 3 4; cz 0 1; x 1")
	order.stays(t, "measure 4 -> 2; measure 0 -> 0; reset 3; measure 1 -> 1; reset 2")
	order.stays(t, "measure 1 -> 0; if 0 1 x 0")
	order.wantText(t, "measure 1 -> 0; if 1 1 x 0", "if 1 1 x 0; measure 1 -> 0")
	order.stays(t, "if 0 1 z 0; measure 1 -> 0")
	order.wantText(t, "reset 1; if 0 1 x 0", "if 0 1 x 0; reset 1")
	order.wantText(t, "reset 1; x 1; x 0", "x 0; reset 1; x 1")
	order.wantText(t, "barrier 0 1; x 1; x 0; x 2", "x 2; barrier 0 1; x 0; x 1")
}

// P18.3: circuits at chance, against the slow way.
func TestOrderAtChance(t *testing.T) {
	chance := rand.New(rand.NewSource(1804))
	for _, c := range samples(chance, 4000) {
		order.want(t, "one at chance", c, slowOrder(c))
	}
	for range 100 {
		c := wish{qubits: 20 + chance.Intn(45), bits: 1 + chance.Intn(10), ops: 100, halves: 100, measures: chance.Intn(30)}.drawn(chance)
		order.want(t, "a wide one at chance", c, slowOrder(c))
	}
}

// P18.3: the longest there may be.
func TestLongOrder(t *testing.T) {
	var falling, rising []api.Op
	for i := range 4096 {
		falling = append(falling, do(api.GateX, 63-i%64))
		rising = append(rising, do(api.GateX, i/64))
	}
	order.want(t, "the longest", of(64, 0, falling...), of(64, 0, rising...))
	chance := rand.New(rand.NewSource(1805))
	c := wish{qubits: 64, bits: 64, ops: 4096, halves: 4096, measures: 1000}.drawn(chance)
	d := order.answer(t, c)
	if len(d.Ops) != 4096 || !circuit.Same(order.answer(t, d), d) {
		t.Error("the longest is not its own order")
	}
}

// exchanged is a circuit with neighbours that do not touch exchanged so many times.
func exchanged(chance *rand.Rand, c api.Circuit, times int) api.Circuit {
	d := deep(c)
	for range times {
		if i := chance.Intn(max(1, len(d.Ops)-1)); i+1 < len(d.Ops) && !slowTouch(d.Ops[i], d.Ops[i+1]) {
			d.Ops[i], d.Ops[i+1] = d.Ops[i+1], d.Ops[i]
		}
	}
	return d
}

func wantReorders(t *testing.T, a, b api.Circuit, wanted bool) {
	t.Helper()
	first, second := deep(a), deep(b)
	if is, e := rewrite.Reorders(a, b); is != wanted || e != api.OK {
		t.Errorf("%v, %v: %t %d", a, b, is, e)
	}
	if !sameCircuit(a, first) || !sameCircuit(b, second) {
		t.Errorf("%v, %v were changed", a, b)
	}
}

// P18.5, P18.6: whatever does not touch may change places, and nothing else.
func TestReorders(t *testing.T) {
	chance := rand.New(rand.NewSource(1806))
	for _, c := range samples(chance, 1500) {
		d := exchanged(chance, c, 100)
		order.want(t, "exchanged", d, order.answer(t, c))
		wantReorders(t, c, d, true)
		wantReorders(t, order.answer(t, c), c, true)
		if len(c.Ops) == 0 {
			continue
		}
		i := chance.Intn(len(c.Ops))
		less := deep(d)
		less.Ops = slices.Delete(less.Ops, i, i+1)
		wantReorders(t, c, less, false)
		if i > 0 && slowTouch(d.Ops[i-1], d.Ops[i]) && !sameOp(d.Ops[i-1], d.Ops[i]) {
			d.Ops[i-1], d.Ops[i] = d.Ops[i], d.Ops[i-1]
			wantReorders(t, c, d, false)
		}
	}
}

// P18.5: by hand; other counts are other circuits.
func TestReordersByHand(t *testing.T) {
	for _, w := range []struct {
		a, b   string
		wanted bool
	}{
		{"", "", true},
		{"x 0; x 1", "x 1; x 0", true},
		{"x 0; z 0", "z 0; x 0", false},
		{"z 0; s 0", "s 0; z 0", false}, // they commute, but they touch
		{"cz 0 1", "cz 1 0", false},
		{"measure 0 -> 0; measure 1 -> 1", "measure 1 -> 1; measure 0 -> 0", false},
		{"measure 0 -> 0; x 1", "x 1; measure 0 -> 0", true},
		{"measure 0 -> 0; if 0 1 x 1", "if 0 1 x 1; measure 0 -> 0", false},
		{"measure 0 -> 0; if 1 1 x 1", "if 1 1 x 1; measure 0 -> 0", true},
		{"x 0; x 0; x 1", "x 0; x 1; x 0", true},
		{"x 0", "x 0; x 0", false},
		{"x 0", "", false},
	} {
		wantReorders(t, text(t, w.a), text(t, w.b), w.wanted)
	}
	wantReorders(t, of(1, 0), of(1, 0), true)
	wantReorders(t, of(1, 0), of(2, 0), false)
	wantReorders(t, of(1, 0), of(1, 1), false)
	wantReorders(t, of(2, 0, do(api.GateX, 0)), of(3, 0, do(api.GateX, 0)), false)
	wantReorders(t, of(64, 64), api.Circuit{Qubits: 64, Bits: 64, Ops: []api.Op{}}, true)
}

// P18.5: either may be wrong.
func TestReordersRefuses(t *testing.T) {
	for _, c := range wrongCircuits() {
		for _, pair := range [][2]api.Circuit{{c, of(1, 0)}, {of(1, 0), c}, {c, c}} {
			if is, e := rewrite.Reorders(pair[0], pair[1]); is || e != api.ErrCircuit {
				t.Errorf("%v, %v: %t %d", pair[0], pair[1], is, e)
			}
		}
	}
}
