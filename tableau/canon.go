package tableau

import (
	"slices"

	"phasor/api"
)

// Canon answers the generators in their one form (P14.6).
func Canon(t api.Tableau) ([]api.Pauli, api.Errno) {
	if e := Check(t); e != api.OK {
		return nil, e
	}
	rows := slices.Clone(t.Stab)
	reduce(rows, t.N)
	return rows, api.OK
}

// Same tells whether two tableaux are one state (P14.6).
func Same(a, b api.Tableau) bool {
	first, e := Canon(a)
	second, f := Canon(b)
	return e == api.OK && f == api.OK && a.N == b.N && slices.Equal(first, second)
}

// Cut tells how entangled some qubits are with the others (P14.9).
func Cut(t api.Tableau, qubits []int) (int, api.Errno) {
	if e := Check(t); e != api.OK {
		return 0, e
	}
	if !unlike(qubits, t.N) {
		return 0, api.ErrArg
	}
	var mask uint64
	for _, q := range qubits {
		mask |= 1 << q
	}
	rows := make([]api.Pauli, t.N)
	for i := range t.N {
		rows[i] = api.Pauli{N: t.N, X: t.Stab[i].X & mask, Z: t.Stab[i].Z & mask}
	}
	return reduce(rows, t.N) - len(qubits), api.OK
}

// reduce brings strings of n qubits into reduced echelon form, and answers their rank: so many rows are not I everywhere.
func reduce(rows []api.Pauli, n int) int {
	rank := 0
	for column := range 2 * n {
		set := func(row api.Pauli) bool { return bit(row, column) == 1 }
		below := slices.IndexFunc(rows[rank:], set)
		if below < 0 {
			continue
		}
		pivot := rows[rank+below]
		rows[rank], rows[rank+below] = pivot, rows[rank]
		multiply(rows, pivot, rank, set)
		rank++
	}
	return rank
}

// bit is a string's bit in a column: those of X stand ahead of those of Z.
func bit(p api.Pauli, column int) uint64 {
	if column < p.N {
		return p.X >> column & 1
	}
	return p.Z >> (column - p.N) & 1
}
