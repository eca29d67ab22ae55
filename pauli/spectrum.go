package pauli

import (
	"phasor/api"
	"phasor/matrix"
	"phasor/plane"
)

// mostSpread is of how many qubits matrices are taken apart and put together.
const mostSpread = 3

// Spectrum tells how much of each string is in a matrix (P13.6).
func Spectrum(m api.Matrix) ([]complex128, api.Errno) {
	if matrix.Check(m) != api.OK {
		return nil, api.ErrPauli
	}
	n := power(m.N)
	if n < 0 || n > mostSpread {
		return nil, api.ErrPauli
	}
	l := make([]complex128, len(m.E))
	for i := range l {
		l[i] = share(m, numbered(i, n))
	}
	return l, api.OK
}

// Compose makes a matrix of strings (P13.6).
func Compose(l []complex128) (api.Matrix, api.Errno) {
	twice := power(len(l))
	if twice < 0 || twice%2 != 0 || twice/2 > mostSpread {
		return api.Matrix{}, api.ErrPauli
	}
	n := twice / 2
	m := api.Matrix{N: 1 << n, E: make([]complex128, len(l))}
	for column := range m.N {
		for row, z := range together(l, n, column) {
			m.E[m.N*row+column] = z
		}
	}
	return m, api.OK
}

// numbered answers the string of a number among those of n qubits.
func numbered(i, n int) api.Pauli {
	return api.Pauli{N: n, X: uint64(i) % (1 << n), Z: uint64(i) >> n}
}

// share answers how much of a string is in a matrix.
func share(m api.Matrix, p api.Pauli) complex128 {
	terms := make([]complex128, m.N)
	for k := range terms {
		moved, _ := Act(p, columnOf(m, k))
		terms[k] = moved[k]
	}
	z, _ := plane.Half(plane.Sum(terms), p.N)
	return z
}

func columnOf(m api.Matrix, k int) []complex128 {
	column := make([]complex128, m.N)
	for row := range column {
		column[row] = m.E[m.N*row+k]
	}
	return column
}

// together answers a column of the matrix in which there is so much of each string. Terms that are nought are added, too: they may be NaN, or turn the sign of a nought.
func together(l []complex128, n, k int) []complex128 {
	basis := make([]complex128, 1<<n)
	basis[k] = 1
	terms := make([][]complex128, len(basis))
	for i, much := range l {
		moved, _ := Act(numbered(i, n), basis)
		for row, z := range moved {
			terms[row] = append(terms[row], plane.Mul(much, z))
		}
	}
	column := make([]complex128, len(basis))
	for row := range column {
		column[row] = plane.Sum(terms[row])
	}
	return column
}
