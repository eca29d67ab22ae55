package invert_test

import (
	"math/rand"
	"testing"

	"phasor/api"
	"phasor/gate"
)

// P17.2: circuits at chance against the slow way, with measurements, resets, barriers and conditions.
func TestConj(t *testing.T) {
	chance := rand.New(rand.NewSource(1703))
	for range 1500 {
		c := wish{qubits: 1 + chance.Intn(10), bits: chance.Intn(4), ops: chance.Intn(40), halves: 40, measures: 40}.drawn(chance)
		conj.want(t, "operations at chance", c, slowConj(t, c))
	}
	for range 10 {
		c := wish{qubits: 64, bits: 64, ops: 1000, halves: 1000, measures: 1000}.drawn(chance)
		conj.want(t, "many at chance", c, slowConj(t, c))
	}
}

// P17.2: each kind by the chapter's table, with each condition and without one.
func TestConjOfEachKind(t *testing.T) {
	x, y, z := api.GateX, api.GateY, api.GateZ
	wanted := map[api.GateKind][]api.GateKind{
		api.GateS: {api.GateSdg}, api.GateSdg: {api.GateS}, api.GateV: {api.GateVdg}, api.GateVdg: {api.GateV}, api.GateISw: {api.GateISwd}, api.GateISwd: {api.GateISw},
		api.GateY: {y, x, z, x, z}, api.GateW: {api.GateW, z, x, y}, api.GateWdg: {api.GateWdg, y, x, z}, api.GateCY: {api.GateCY, z},
	}
	for k := api.GateI; k <= api.GateCSw; k++ {
		row, is := wanted[k]
		if !is {
			row = []api.GateKind{k}
		}
		for _, mixed := range [][]int{{0, 1, 2}, {2, 0, 1}, {63, 31, 62}, {1, 63, 0}} {
			wantConj(t, k, mixed, row)
		}
	}
}

// wantConj takes a gate's conjugate to be a row of kinds: the first on its qubits, the others on its first one, all with its condition.
func wantConj(t *testing.T, k api.GateKind, mixed []int, row []api.GateKind) {
	t.Helper()
	for _, at := range [][2]int{{-1, 0}, {0, 0}, {0, 1}, {63, 0}, {63, 1}} {
		wanted := of(64, 64)
		for i, other := range row {
			on := mixed[:1]
			if i == 0 {
				on = mixed[:gate.Arity(k)]
			}
			wanted.Ops = append(wanted.Ops, when(at[0], at[1], do(other, on...)))
		}
		conj.want(t, gate.Name(k), of(64, 64, when(at[0], at[1], do(k, mixed[:gate.Arity(k)]...))), wanted)
	}
}

// P17.2: by hand: what is no gate is as it is, and the order is kept.
func TestConjByHand(t *testing.T) {
	s, sdg, cy := do(api.GateS, 1), do(api.GateSdg, 1), do(api.GateCY, 1, 0)
	for _, w := range []struct {
		what      string
		c, wanted api.Circuit
	}{
		{"nothing", of(0, 0), of(0, 0)},
		{"nothing on qubits", of(64, 64), of(64, 64)},
		{"an empty list", api.Circuit{Qubits: 1, Bits: 2, Ops: []api.Op{}}, of(1, 2)},
		{"no gates", of(3, 4, barrier(2, 0), reset(1), measure(2, 3), measure(0, 0)), of(3, 4, barrier(2, 0), reset(1), measure(2, 3), measure(0, 0))},
		{"between", of(2, 2, s, measure(0, 1), s, reset(1), cy, barrier(1, 0), when(1, 0, cy)), of(2, 2, sdg, measure(0, 1), sdg, reset(1), cy, do(api.GateZ, 1), barrier(1, 0), when(1, 0, cy), when(1, 0, do(api.GateZ, 1)))},
	} {
		conj.want(t, w.what, w.c, w.wanted)
	}
}

// P17.2: up to just as many operations as there may be, whatever they are.
func TestConjIsNotTooLong(t *testing.T) {
	x, y, s, sy, sydg, cy, b, m := do(api.GateX, 1), do(api.GateY, 0), do(api.GateS, 1), do(api.GateW, 0), do(api.GateWdg, 1), do(api.GateCY, 1, 0), barrier(0, 1), measure(1, 0)
	for _, w := range []struct {
		what string
		ops  []api.Op
		many int // how many there would be
	}{
		{"s", times(4096, s), 4096},
		{"barriers", times(4096, b), 4096},
		{"measurements", times(4096, m), 4096},
		{"y and x", behind(times(819, y), times(1, x)), 4096},
		{"y and two x", behind(times(819, y), times(2, x)), 4097},
		{"x and y", behind(times(4091, x), times(1, y)), 4096},
		{"one x more", behind(times(4092, x), times(1, y)), 4097},
		{"y alone", times(820, y), 4100},
		{"sy", times(1024, sy), 4096},
		{"sydg", times(1024, sydg), 4096},
		{"sy and a barrier", behind(times(1024, sy), times(1, b)), 4097},
		{"a measurement and sydg", behind(times(1, m), times(1024, sydg)), 4097},
		{"cy", times(2048, cy), 4096},
		{"cy and more", times(2049, cy), 4098},
		{"with a condition", behind(times(4095, b), times(1, when(0, 1, cy))), 4097},
		{"y as many as may be", times(4096, y), 20480},
	} {
		c := of(2, 1, w.ops...)
		if w.many > api.MaxOps {
			conj.refuses(t, w.what, c, api.ErrInverse)
			continue
		}
		conj.want(t, w.what, c, slowConj(t, c))
		if many := len(conj.answer(t, c).Ops); many != w.many {
			t.Errorf("%s: %d operations, not %d", w.what, many, w.many)
		}
	}
}
