package expect

import (
	"math/bits"

	"phasor/api"
	"phasor/plane"
	"phasor/scalar"
	"phasor/state"
)

// Table answers those of all strings (P22.3).
func Table(s []complex128) ([]float64, api.Errno) {
	n, e := state.Check(s)
	if e != api.OK {
		return nil, e
	}
	if n > api.MaxTable {
		return nil, api.ErrExpect
	}
	table := make([]float64, 1<<(2*n))
	for m := range table {
		value, _ := Value(s, api.Pauli{N: n, X: uint64(m) % (1 << n), Z: uint64(m) >> n})
		table[m] = real(value)
	}
	return table, api.OK
}

// Rebuild makes the density matrix of a table (P22.4).
func Rebuild(table []float64) (api.Matrix, api.Errno) {
	n := qubitsOf(table)
	if n < 0 {
		return api.Matrix{}, api.ErrExpect
	}
	m := api.Matrix{N: 1 << n, E: make([]complex128, len(table))}
	for i := range m.E {
		m.E[i] = entry(table, n, i/m.N, i%m.N)
	}
	return m, api.OK
}

// Purity is the sum of the squares of a table, over how many rows a matrix has (P22.7).
func Purity(table []float64) (float64, api.Errno) {
	n := qubitsOf(table)
	if n < 0 {
		return 0, api.ErrExpect
	}
	squares := make([]float64, len(table))
	for m, x := range table {
		squares[m] = float64(x * x)
	}
	return scalar.Sum(squares) / float64(int(1)<<n), api.OK
}

// qubitsOf tells of how many qubits a table is; -1, if it is none.
func qubitsOf(table []float64) int {
	for n := range api.MaxTable + 1 {
		if len(table) == 1<<(2*n) {
			return n
		}
	}
	return -1
}

// entry answers what stands in a row and a column: of all strings only those that take the column's basis state to the row's have a part in it, and these have one X.
func entry(table []float64, n, row, column int) complex128 {
	x := row ^ column
	terms := make([]complex128, 1<<n)
	for z := range terms {
		common := func(other int) int { return bits.OnesCount(uint(other & z)) }
		terms[z] = plane.Turn(complex(table[x+z<<n], 0), common(x)+2*common(column))
	}
	share, _ := plane.Half(plane.Sum(terms), n)
	return plane.Clean(share)
}
