package gate

import (
	"slices"

	"phasor/api"
	"phasor/plane"
)

// Moves tells where a gate moves a basis state.
func Moves(k api.GateKind, index int) (int, int, bool) {
	if !Monomial(k) || index < 0 || index >= 1<<Arity(k) {
		return 0, 0, false
	}
	core := rowOf(k).core
	ahead := Arity(k) - Arity(core)
	ones := 1<<ahead - 1
	if index&ones != ones {
		return index, 0, true
	}
	d := deeds[core]
	return d.to[index>>ahead]<<ahead | ones, d.turn[index>>ahead], true
}

// Matrix answers a gate's matrix.
func Matrix(k api.GateKind) (api.Matrix, api.Errno) {
	if !known(k) {
		return api.Matrix{}, api.ErrGate
	}
	n := 1 << Arity(k)
	if Halving(k) {
		return api.Matrix{N: n, E: halves(k)}, api.OK
	}
	return fill(n, func(row, column int) complex128 {
		to, turn, _ := Moves(k, column)
		if to != row {
			return 0
		}
		return plane.Clean(plane.Turn(1, turn))
	}), api.OK
}

// halves answers the entries of a halving gate. They are constants, so that no nought among their parts gets a sign.
func halves(k api.GateKind) []complex128 {
	const h, c = 0.5 + 0.5i, 0.5 - 0.5i
	switch k {
	case api.GateV:
		return []complex128{h, c, c, h}
	case api.GateVdg:
		return []complex128{c, h, h, c}
	case api.GateW:
		return []complex128{h, -h, h, h}
	case api.GateWdg:
		return []complex128{c, c, -c, c}
	}
	return []complex128{
		0.5, 0.5, 0.5, 0.5,
		0.5, -0.5, 0.5, -0.5,
		0.5, 0.5, -0.5, -0.5,
		0.5, -0.5, -0.5, 0.5,
	}
}

// fill makes a matrix of what an entry is by its row and its column.
func fill(n int, entry func(row, column int) complex128) api.Matrix {
	m := api.Matrix{N: n, E: make([]complex128, n*n)}
	for i := range m.E {
		m.E[i] = entry(i/n, i%n)
	}
	return m
}

// product multiplies matrices of as many rows. Those of gates have so few halves that nothing is rounded.
func product(a, b api.Matrix) api.Matrix {
	return fill(a.N, func(row, column int) complex128 {
		var sum complex128
		for i := range a.N {
			sum = plane.Add(sum, plane.Mul(a.E[a.N*row+i], b.E[b.N*i+column]))
		}
		return sum
	})
}

func equal(a, b api.Matrix) bool {
	return slices.EqualFunc(a.E, b.E, plane.Equal)
}
