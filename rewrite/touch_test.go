package rewrite_test

import (
	"math/rand"
	"testing"

	"phasor/api"
	"phasor/rewrite"
)

// wantTouch takes two operations to touch or not, whichever is first, and to stay as they are.
func wantTouch(t *testing.T, a, b api.Op, wanted bool) {
	t.Helper()
	ahead := deep(of(0, 0, a, b))
	if rewrite.Touch(a, b) != wanted || rewrite.Touch(b, a) != wanted {
		t.Errorf("%v and %v: not %t", a, b, wanted)
	}
	if !sameCircuit(of(0, 0, a, b), ahead) {
		t.Errorf("%v and %v were changed", a, b)
	}
}

// P18.1: by hand, of operations that may be.
func TestTouch(t *testing.T) {
	for _, w := range []struct {
		a, b   string
		wanted bool
	}{
		{"x 0", "x 0", true},
		{"x 0", "x 1", false},
		{"cx 0 1", "cx 2 1", true},
		{"cx 0 1", "cz 2 3", false},
		{"ccx 0 1 2", "cswap 3 4 2", true},
		{"barrier 0 1 2", "x 2", true},
		{"barrier 0 1", "barrier 2 3", false},
		{"barrier 0", "measure 0 -> 0", true},
		{"barrier 0", "measure 1 -> 0", false},
		{"barrier 0", "reset 1", false},
		{"measure 0 -> 0", "measure 1 -> 1", true},
		{"measure 0 -> 0", "reset 1", true},
		{"reset 0", "reset 1", true},
		{"measure 0 -> 0", "x 1", false},
		{"reset 0", "x 1", false},
		{"measure 0 -> 0", "if 0 1 x 1", true},
		{"measure 0 -> 0", "if 0 0 x 1", true},
		{"measure 0 -> 1", "if 0 1 x 1", false},
		{"measure 0 -> 0", "if 1 0 x 1", false},
		{"measure 0 -> 1", "if 0 1 x 0", true},
		{"reset 0", "if 0 1 x 1", false},
		{"if 0 1 x 0", "if 0 1 x 1", false},
		{"if 0 1 x 0", "if 0 0 x 1", false},
		{"if 0 1 x 0", "barrier 1", false},
	} {
		wantTouch(t, ops(t, w.a)[0], ops(t, w.b)[0], w.wanted)
	}
}

// P18.1: of any two: what may not be in a circuit, too.
func TestTouchOfAnyTwo(t *testing.T) {
	none := api.Op{If: -1}
	wantTouch(t, api.Op{}, api.Op{}, false)
	wantTouch(t, none, none, false)
	wantTouch(t, do(api.GateX, -3), do(77, 5, great, -3), true)
	wantTouch(t, do(api.GateX, 64), do(api.GateX, 0), false)
	wantTouch(t, do(api.GateX, great), barrier(least, great), true)
	wantTouch(t, barrier(), barrier(0), false)
	wantTouch(t, api.Op{Kind: api.OpMeasure, If: -1}, api.Op{Kind: api.OpReset, If: -1}, true)
	wantTouch(t, api.Op{Kind: api.OpMeasure, If: -1}, api.Op{Kind: 5, If: -1}, false)
	wantTouch(t, measure(0, 70), when(70, 9, do(api.GateX, 1)), true)
	wantTouch(t, measure(0, 0), api.Op{Kind: api.OpBarrier, Qubits: []int{1}}, true)
	// If -1 is no condition, into whichever bit is measured.
	wantTouch(t, measure(0, -1), do(api.GateX, 1), false)
	wantTouch(t, measure(0, -1), barrier(1), false)
	// What is no measurement has no bit that counts.
	wantTouch(t, api.Op{Kind: api.OpReset, Qubits: []int{0}, Bit: 1, If: -1}, when(1, 0, do(api.GateX, 1)), false)
	wantTouch(t, api.Op{Kind: api.OpGate, Qubits: []int{0}, Bit: 1, If: -1}, when(1, 0, do(api.GateX, 1)), false)
}

// P18.1: any two at chance, against the slow way.
func TestTouchAtChance(t *testing.T) {
	chance := rand.New(rand.NewSource(1801))
	draw := func() api.Op {
		op := api.Op{Kind: api.OpKind(chance.Intn(6)), Gate: api.GateKind(chance.Intn(22)), Bit: chance.Intn(4) - 1, If: chance.Intn(4) - 1, When: chance.Intn(3)}
		for range chance.Intn(4) {
			op.Qubits = append(op.Qubits, chance.Intn(9)-1)
		}
		return op
	}
	for range 20000 {
		a, b := draw(), draw()
		wantTouch(t, a, b, slowTouch(a, b))
	}
}

// R1: long lists end, too.
func TestTouchOfLongLists(t *testing.T) {
	a, b := barrier(), barrier()
	for q := range 1 << 20 {
		a.Qubits, b.Qubits = append(a.Qubits, 2*q), append(b.Qubits, 2*q+1)
	}
	wantTouch(t, a, b, false)
	b.Qubits[1<<20-1] = 2<<20 - 2
	wantTouch(t, a, b, true)
}
