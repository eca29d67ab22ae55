package apply

import (
	"phasor/api"
	"phasor/gate"
	"phasor/plane"
)

// mostIndexes is how many amplitudes a gate's group has at most: those of three qubits.
const mostIndexes = 8

// deedOf answers what a gate does with a group (P10.1).
func deedOf(k api.GateKind) deed {
	table := map[api.GateKind]deed{
		api.GateV:   rootX,
		api.GateVdg: backX,
		api.GateW:   rootY,
		api.GateWdg: backY,
		api.GateHH:  bothHalved,
	}
	if do, halves := table[k]; halves {
		return do
	}
	return mover(k)
}

// mover answers what a monomial gate does with a group. Moves is asked once for all groups.
func mover(k api.GateKind) deed {
	var to, turn [mostIndexes]int
	for j := range 1 << gate.Arity(k) {
		to[j], turn[j], _ = gate.Moves(k, j)
	}
	return func(x []complex128) {
		var moved [mostIndexes]complex128
		for j, z := range x {
			if to[j] != j || turn[j] != 0 {
				z = plane.Clean(plane.Turn(z, turn[j]))
			}
			moved[to[j]] = z
		}
		copy(x, moved[:len(x)])
	}
}

func rootX(x []complex128) {
	s, d := plane.Add(x[0], x[1]), plane.Sub(x[0], x[1])
	x[0] = half(real(s)-imag(d), imag(s)+real(d))
	x[1] = half(real(s)+imag(d), imag(s)-real(d))
}

func backX(x []complex128) {
	rootX(x)
	x[0], x[1] = x[1], x[0]
}

func rootY(x []complex128) {
	s, d := plane.Add(x[0], x[1]), plane.Sub(x[0], x[1])
	x[0] = half(real(d)-imag(d), real(d)+imag(d))
	x[1] = half(real(s)-imag(s), real(s)+imag(s))
}

func backY(x []complex128) {
	s, d := plane.Add(x[0], x[1]), plane.Sub(x[0], x[1])
	x[0] = half(real(s)+imag(s), imag(s)-real(s))
	x[1] = half(-(real(d) + imag(d)), real(d)-imag(d))
}

func bothHalved(x []complex128) {
	a, b := plane.Add(x[0], x[1]), plane.Sub(x[0], x[1])
	c, e := plane.Add(x[2], x[3]), plane.Sub(x[2], x[3])
	for j, z := range [4]complex128{plane.Add(a, c), plane.Add(b, e), plane.Sub(a, c), plane.Sub(b, e)} {
		x[j] = half(real(z), imag(z))
	}
}

// half puts half of each part together, cleaned. Each product is converted, so that no machine may reckon it together with the nought that cleaning adds: a half that is rounded to -0 would keep its sign.
func half(re, im float64) complex128 {
	return plane.Clean(complex(float64(re*0.5), float64(im*0.5)))
}
