package invert_test

import (
	"math/rand"
	"slices"
	"testing"

	"phasor/api"
	"phasor/gate"
)

// P17.4: circuits at chance against the slow way.
func TestControl(t *testing.T) {
	chance := rand.New(rand.NewSource(1706))
	for range 1000 {
		c := plainRow(chance, 1+chance.Intn(10), chance.Intn(4), chance.Intn(40))
		control.want(t, "gates at chance", c, slowControl(t, c))
	}
	c := plainRow(chance, 63, 64, 4096)
	control.want(t, "the longest at chance", c, slowControl(t, c))
}

// P17.4: each kind, on qubits in any order: what it becomes, or that it is refused, wherever it stands.
func TestControlOfEachKind(t *testing.T) {
	wanted := map[api.GateKind]api.GateKind{
		api.GateX: api.GateCX, api.GateY: api.GateCY, api.GateZ: api.GateCZ, api.GateCX: api.GateCCX, api.GateCZ: api.GateCCZ, api.GateSwap: api.GateCSw,
	}
	for k := api.GateI; k <= api.GateCSw; k++ {
		for _, mixed := range [][]int{{0, 1, 2}, {2, 0, 1}, {1, 2, 0}} {
			on := mixed[:gate.Arity(k)]
			c := of(3, 2, do(k, on...))
			become, is := wanted[k]
			switch {
			case k == api.GateI:
				control.want(t, "id", c, of(4, 2, do(k, on...)))
			case is:
				control.want(t, gate.Name(k), c, of(4, 2, do(become, append([]int{3}, on...)...)))
			default:
				control.refuses(t, gate.Name(k), c, api.ErrInverse)
				control.refuses(t, gate.Name(k), of(3, 2, do(api.GateX, 0), barrier(0), do(k, on...), do(api.GateZ, 1)), api.ErrInverse)
			}
		}
	}
}

// P17.4: by hand: barriers as they are, bits kept, the new qubit the last one.
func TestControlByHand(t *testing.T) {
	x, y, b := do(api.GateX, 0), do(api.GateY, 1), barrier(2, 0)
	for _, w := range []struct {
		what      string
		c, wanted api.Circuit
	}{
		{"nothing", of(0, 0), of(1, 0)},
		{"nothing on qubits", of(63, 64), of(64, 64)},
		{"an empty list", api.Circuit{Qubits: 1, Bits: 2, Ops: []api.Op{}}, of(2, 2)},
		{"a barrier", of(3, 0, b), of(4, 0, b)},
		{"between", of(3, 1, y, b, do(api.GateI, 2), x, b), of(4, 1, do(api.GateCY, 3, 1), b, do(api.GateI, 2), do(api.GateCX, 3, 0), b)},
		{"the highest", of(63, 0, do(api.GateX, 62), do(api.GateCZ, 62, 0)), of(64, 0, do(api.GateCX, 63, 62), do(api.GateCCZ, 63, 62, 0))},
	} {
		control.want(t, w.what, w.c, w.wanted)
	}
	control.want(t, "the longest", of(1, 0, times(4096, x)...), of(2, 0, times(4096, do(api.GateCX, 1, 0))...))
	twice := control.answer(t, of(1, 0, x))
	control.want(t, "what is controlled", twice, of(3, 0, do(api.GateCCX, 2, 1, 0)))
	control.refuses(t, "what is controlled twice", control.answer(t, twice), api.ErrInverse)
}

// P17.4: as many qubits as there may be, conditions, measurements and resets are refused, wherever they stand.
func TestControlRefuses(t *testing.T) {
	for _, c := range []api.Circuit{of(64, 0), of(64, 64), of(64, 0, do(api.GateX, 0)), of(64, 0, barrier(63)), of(64, 0, do(api.GateS, 63))} {
		control.refuses(t, "as many qubits as there may be", c, api.ErrInverse)
	}
	for _, k := range controllable() {
		for _, at := range [][2]int{{0, 0}, {0, 1}, {1, 1}} {
			op := when(at[0], at[1], do(k, []int{0, 1}[:gate.Arity(k)]...))
			control.refuses(t, "a condition", of(2, 2, op), api.ErrInverse)
			control.refuses(t, "a condition behind others", of(2, 2, do(api.GateX, 0), barrier(1), op), api.ErrInverse)
		}
	}
	for _, op := range []api.Op{measure(0, 0), reset(0)} {
		control.refuses(t, "no gate", of(1, 1, op), api.ErrInverse)
		control.refuses(t, "no gate at the end", of(1, 1, behind(times(4095, do(api.GateX, 0)), []api.Op{op})...), api.ErrInverse)
	}
}

// P17.4: at chance: just those circuits are refused that have something else.
func TestControlTakesOrRefuses(t *testing.T) {
	chance := rand.New(rand.NewSource(1707))
	took := 0
	for range 3000 {
		c := wish{qubits: 1 + chance.Intn(4), bits: chance.Intn(2), ops: chance.Intn(5), halves: 9, measures: 9}.drawn(chance)
		if wantControlOf(t, c) {
			took++
		}
	}
	if took < 300 {
		t.Error("few were taken:", took)
	}
}

// wantControlOf takes Control to take a circuit that may be just if it has nothing else, and tells whether it did.
func wantControlOf(t *testing.T, c api.Circuit) bool {
	t.Helper()
	other := slices.ContainsFunc(c.Ops, func(op api.Op) bool {
		return op.Kind != api.OpBarrier && (op.Kind != api.OpGate || op.If != -1 || !slices.Contains(controllable(), op.Gate))
	})
	if other || c.Qubits == 64 {
		control.refuses(t, "something else", c, api.ErrInverse)
		return false
	}
	control.want(t, "what may be controlled", c, slowControl(t, c))
	return true
}
