package invert_test

import (
	"math/rand"
	"testing"

	"phasor/api"
)

// P17.3: circuits at chance against the slow way.
func TestMirror(t *testing.T) {
	chance := rand.New(rand.NewSource(1704))
	for range 800 {
		c := wish{qubits: 1 + chance.Intn(10), bits: chance.Intn(4), ops: chance.Intn(40), halves: 40}.row(chance)
		mirror.want(t, "gates at chance", c, slowMirror(t, c))
	}
	c := wish{qubits: 64, bits: 64, ops: 2048, halves: 2048}.row(chance)
	mirror.want(t, "the longest at chance", c, slowMirror(t, c))
}

// P17.3: by hand: nothing, barriers, which are mirrored too, and just as many operations as there may be.
func TestMirrorByHand(t *testing.T) {
	x, s, sdg, b := do(api.GateX, 0), do(api.GateS, 1), do(api.GateSdg, 1), barrier(2, 0)
	mirror.want(t, "nothing", of(0, 0), of(0, 0))
	mirror.want(t, "nothing on qubits", of(64, 64), of(64, 64))
	mirror.want(t, "a barrier", of(3, 0, b), of(3, 0, b, b))
	mirror.want(t, "four", of(3, 2, x, b, s, do(api.GateISw, 2, 1)), of(3, 2, x, b, s, do(api.GateISw, 2, 1), do(api.GateISwd, 2, 1), sdg, b, x))
	mirror.want(t, "the longest", of(3, 0, times(2048, s)...), of(3, 0, behind(times(2048, s), times(2048, sdg))...))
	for _, n := range []int{2049, 2050, 4095, 4096} {
		mirror.refuses(t, "what is too long", of(3, 0, times(n, s)...), api.ErrInverse)
		mirror.refuses(t, "too many barriers", of(3, 0, times(n, b)...), api.ErrInverse)
	}
	mirror.refuses(t, "one barrier too many", of(3, 0, behind(times(2048, s), times(1, b))...), api.ErrInverse)
}

// P17.3: circuits at chance, by numbers on both sides of 0.
func TestPower(t *testing.T) {
	chance := rand.New(rand.NewSource(1705))
	for range 300 {
		row := wish{qubits: 1 + chance.Intn(10), bits: chance.Intn(4), ops: chance.Intn(30), halves: 30}.row(chance)
		open := wish{qubits: 1 + chance.Intn(10), bits: chance.Intn(4), ops: chance.Intn(30), halves: 30, measures: 30}.drawn(chance)
		for k := -6; k <= 6; k++ {
			power(k).want(t, "gates at chance", row, slowPower(t, row, k))
			if k >= 0 {
				power(k).want(t, "operations at chance", open, slowPower(t, open, k))
			}
		}
	}
}

// P17.3: what is not unitary, by numbers of 0 and above.
func TestPowerOfMeasurements(t *testing.T) {
	c := of(2, 2, measure(0, 1), when(1, 1, do(api.GateX, 1)), reset(0), barrier(1, 0))
	power(2).want(t, "a measurement", c, of(2, 2, times(2, c.Ops...)...))
	power(1024).want(t, "a measurement", c, of(2, 2, times(1024, c.Ops...)...))
	power(0).want(t, "a measurement", c, of(2, 2))
	power(1025).refuses(t, "a measurement", c, api.ErrInverse)
	power(-1).refuses(t, "a measurement", c, api.ErrInverse)
}

// P17.3: numbers up to their limits, and past them, of circuits of no operations, too.
func TestPowerLimits(t *testing.T) {
	s, sdg, b := do(api.GateS, 0), do(api.GateSdg, 0), barrier(0)
	none, one := of(5, 6), of(1, 0, s)
	for _, k := range []int{0, 1, -1, 4095, 4096, -4095, -4096} {
		power(k).want(t, "nothing", none, none)
		power(k).want(t, "one gate", one, slowPower(t, one, k))
		power(k).want(t, "no qubits", of(0, 0), of(0, 0))
	}
	// Numbers whose products with 16 or 4096 are small again, if they are taken round.
	far := []int{4097, -4097, 1 << 16, 1 << 32, -1 << 32, 1 << 52, -1 << 52, 1 << 60, -1 << 60, 1 << 62, great, least, least + 1}
	for _, k := range far {
		for _, c := range []api.Circuit{none, of(0, 0), one, of(1, 0, times(16, s)...), of(1, 0, times(4096, s)...), of(1, 1, measure(0, 0)), of(1, 0, b)} {
			power(k).refuses(t, "a number past the limits", c, api.ErrInverse)
		}
	}
	power(-4096).want(t, "one gate", one, of(1, 0, times(4096, sdg)...))
	for _, w := range []struct{ ops, most int }{{2, 2048}, {3, 1365}, {64, 64}, {2048, 2}, {2049, 1}, {4096, 1}} {
		c := of(1, 0, behind(times(w.ops-1, s), times(1, b))...)
		for _, k := range []int{w.most, -w.most} {
			power(k).want(t, "many", c, slowPower(t, c, k))
		}
		for _, k := range []int{w.most + 1, -w.most - 1, 4096, -4096} {
			power(k).refuses(t, "too many", c, api.ErrInverse)
		}
		power(0).want(t, "many", c, of(1, 0))
	}
}
