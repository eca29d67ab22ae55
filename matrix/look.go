package matrix

import (
	"slices"

	"phasor/api"
	"phasor/plane"
)

// Equal tells whether matrices are equal.
func Equal(a api.Matrix, b api.Matrix) bool {
	return fit(a, b) && slices.EqualFunc(a.E, b.E, plane.Equal)
}

// Same tells whether matrices have the same bits.
func Same(a api.Matrix, b api.Matrix) bool {
	return fit(a, b) && slices.EqualFunc(a.E, b.E, plane.Same)
}

// Unitary tells whether a matrix is unitary, exactly.
func Unitary(m api.Matrix) bool {
	back, e := Adjoint(m)
	if e != api.OK {
		return false
	}
	p, _ := Mul(m, back)
	one, _ := Identity(m.N)
	return Equal(p, one)
}

// Phase tells by which power of i matrices part.
func Phase(a api.Matrix, b api.Matrix) int {
	if !fit(a, b) {
		return -1
	}
	for k := range 4 {
		turned := fill(b.N, func(row, column int) complex128 {
			return plane.Turn(at(b, row, column), k)
		})
		if Equal(a, turned) {
			return k
		}
	}
	return -1
}

// Commute tells whether matrices commute.
func Commute(a api.Matrix, b api.Matrix) bool {
	ahead, e := Mul(a, b)
	if e != api.OK {
		return false
	}
	behind, _ := Mul(b, a)
	return Equal(ahead, behind)
}
