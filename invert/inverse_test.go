package invert_test

import (
	"math/rand"
	"testing"

	"phasor/api"
	"phasor/gate"
)

// P17.1: circuits at chance against the slow way.
func TestInverse(t *testing.T) {
	chance := rand.New(rand.NewSource(1701))
	for range 1500 {
		c := wish{qubits: 1 + chance.Intn(10), bits: chance.Intn(4), ops: chance.Intn(40), halves: 40}.row(chance)
		inverse.want(t, "gates at chance", c, slowInverse(t, c))
	}
	for range 10 {
		c := wish{qubits: 64, bits: 64, ops: 4096, halves: 4096}.row(chance)
		inverse.want(t, "the longest at chance", c, slowInverse(t, c))
	}
}

// P17.1: each kind, its qubits in the same order, rising or not.
func TestInverseOfEachKind(t *testing.T) {
	wanted := map[api.GateKind]api.GateKind{
		api.GateS: api.GateSdg, api.GateSdg: api.GateS, api.GateV: api.GateVdg, api.GateVdg: api.GateV,
		api.GateW: api.GateWdg, api.GateWdg: api.GateW, api.GateISw: api.GateISwd, api.GateISwd: api.GateISw,
	}
	for k := api.GateI; k <= api.GateCSw; k++ {
		turned, is := wanted[k]
		if !is {
			turned = k
		}
		for _, mixed := range [][]int{{0, 1, 2}, {2, 0, 1}, {63, 31, 62}, {1, 63, 0}} {
			on := mixed[:gate.Arity(k)]
			inverse.want(t, gate.Name(k), of(64, 3, do(k, on...)), of(64, 3, do(turned, on...)))
		}
	}
}

// P17.1: by hand: the order is turned, barriers too, and keep their qubits; nothing is turned to nothing.
func TestInverseByHand(t *testing.T) {
	x, s, sdg := do(api.GateX, 0), do(api.GateS, 1), do(api.GateSdg, 1)
	for _, w := range []struct {
		what      string
		c, wanted api.Circuit
	}{
		{"nothing", of(0, 0), of(0, 0)},
		{"nothing on qubits", of(64, 64), of(64, 64)},
		{"an empty list", api.Circuit{Qubits: 1, Bits: 2, Ops: []api.Op{}}, of(1, 2)},
		{"room behind the end", api.Circuit{Qubits: 1, Ops: make([]api.Op, 0, 5)}, of(1, 0)},
		{"a barrier", of(3, 0, barrier(2, 0, 1)), of(3, 0, barrier(2, 0, 1))},
		{"barriers between", of(3, 1, x, barrier(2, 0), s, barrier(1), sdg), of(3, 1, s, barrier(1), sdg, barrier(2, 0), x)},
		{"two of a kind", of(2, 0, s, s), of(2, 0, sdg, sdg)},
	} {
		inverse.want(t, w.what, w.c, w.wanted)
	}
	inverse.want(t, "the longest", of(2, 64, behind([]api.Op{s}, times(4094, x), []api.Op{barrier(1, 0)})...), of(2, 64, behind([]api.Op{barrier(1, 0)}, times(4094, x), []api.Op{sdg})...))
}

// P17.1 to P17.4: what may not be is refused ahead of all else, by each call.
func TestWrongCircuits(t *testing.T) {
	for _, f := range append(calls(), power(least), power(great), power(4097), power(-4097)) {
		for _, c := range wrongCircuits() {
			f.refuses(t, "a wrong circuit", c, api.ErrCircuit)
		}
	}
}

// P17.1, P17.3, P17.4: what is not unitary has no inverse, no mirror, no powers below 0, and no control.
func TestOpenCircuits(t *testing.T) {
	for _, c := range openCircuits() {
		for _, f := range []call{inverse, mirror, control, power(-1), power(-4096)} {
			f.refuses(t, "what is not unitary", c, api.ErrInverse)
		}
		conj.want(t, "what is not unitary", c, c)
		power(0).want(t, "what is not unitary", c, of(c.Qubits, c.Bits))
		power(1).want(t, "what is not unitary", c, c)
	}
}

// R3: lists are new memory, each its own.
func TestAnswersAreTheCallers(t *testing.T) {
	chance := rand.New(rand.NewSource(1702))
	for range 100 {
		row := wish{qubits: 1 + chance.Intn(5), bits: 2, ops: chance.Intn(12), halves: 12}.row(chance)
		for _, f := range []call{inverse, mirror, conj, power(1), power(3), power(-1), power(-3), power(0)} {
			f.wantOwn(t, row)
		}
		open := wish{qubits: 1 + chance.Intn(5), bits: 2, ops: chance.Intn(12), halves: 12, measures: 9}.drawn(chance)
		for _, f := range []call{conj, power(1), power(4), power(0)} {
			f.wantOwn(t, open)
		}
		control.wantOwn(t, plainRow(chance, 1+chance.Intn(5), 2, chance.Intn(12)))
	}
}
