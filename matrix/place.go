package matrix

import (
	"slices"

	"phasor/api"
)

// mostQubits is of how many qubits a matrix has MaxSide rows.
const mostQubits = 6

// Place lays a matrix of some qubits among n.
func Place(m api.Matrix, qubits []int, n int) (api.Matrix, api.Errno) {
	if Check(m) != api.OK || n < 0 || m.N != 1<<len(qubits) || !unlike(qubits, n) {
		return api.Matrix{}, api.ErrShape
	}
	if n > mostQubits {
		return api.Matrix{}, api.ErrBig
	}
	others := 1<<n - 1
	for _, q := range qubits {
		others &^= 1 << q
	}
	return fill(1<<n, func(row, column int) complex128 {
		if (row^column)&others != 0 {
			return 0
		}
		return at(m, gather(row, qubits), gather(column, qubits))
	}), api.OK
}

// unlike tells whether qubits are from 0 to below n, and no two are one.
func unlike(qubits []int, n int) bool {
	for i, q := range qubits {
		if q < 0 || q >= n || slices.Contains(qubits[:i], q) {
			return false
		}
	}
	return true
}

// gather answers the number whose bits are those that an index has at qubits, the first one's lowest.
func gather(index int, qubits []int) int {
	to := 0
	for t, q := range qubits {
		to |= (index >> q & 1) << t
	}
	return to
}
