package density

import (
	"phasor/api"
	"phasor/matrix"
	"phasor/pauli"
	"phasor/plane"
)

// Pauli is the expectation of a Pauli string (P23.3).
func Pauli(m api.Matrix, p api.Pauli) (complex128, api.Errno) {
	n, e := Check(m)
	if e != api.OK || pauli.Check(p) != api.OK || p.N != n {
		return 0, api.ErrDensity
	}
	terms := make([]complex128, m.N)
	for k := range terms {
		moved, _ := pauli.Act(p, columnOf(m, k))
		terms[k] = moved[k]
	}
	return plane.Sum(terms), api.OK
}

// Purity is the sum of the squares of the entries (P23.3).
func Purity(m api.Matrix) (float64, api.Errno) {
	if _, e := Check(m); e != api.OK {
		return 0, e
	}
	purity := plane.Square(m.E[0])
	for _, z := range m.E[1:] {
		purity += plane.Square(z)
	}
	return purity, api.OK
}

// Hermitian tells whether a matrix is its own adjoint (P23.3).
func Hermitian(m api.Matrix) bool {
	if _, e := Check(m); e != api.OK {
		return false
	}
	back, _ := matrix.Adjoint(m)
	return matrix.Equal(m, back)
}

// Weights are the entries of the diagonal (P23.3).
func Weights(m api.Matrix) ([]float64, api.Errno) {
	if _, e := Check(m); e != api.OK {
		return nil, e
	}
	l := make([]float64, m.N)
	for k := range l {
		l[k] = real(at(m, k, k))
	}
	return l, api.OK
}

// Fidelity is what a state weighs in a matrix (P23.4).
func Fidelity(m api.Matrix, s []complex128) (complex128, api.Errno) {
	// A row of as many numbers as a density matrix has rows is a state.
	if _, e := Check(m); e != api.OK || len(s) != m.N {
		return 0, api.ErrDensity
	}
	moved, _ := matrix.Act(m, s)
	return plane.Dot(s, moved)
}
