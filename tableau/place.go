package tableau

import "phasor/api"

// Kron answers the tableau of two states beside one another (P14.8).
func Kron(high, low api.Tableau) (api.Tableau, api.Errno) {
	if Check(high) != api.OK || Check(low) != api.OK {
		return api.Tableau{}, api.ErrTableau
	}
	n := high.N + low.N
	if n > api.MaxWires {
		return api.Tableau{}, api.ErrArg
	}
	return api.Tableau{
		N:      n,
		Stab:   beside(high.Stab, low.Stab, n),
		Destab: beside(high.Destab, low.Destab, n),
	}, api.OK
}

// beside lays strings among n qubits, the low ones first, at the first of the qubits.
func beside(high, low []api.Pauli, n int) []api.Pauli {
	rows := make([]api.Pauli, 0, n)
	for _, p := range low {
		rows = append(rows, api.Pauli{N: n, X: p.X, Z: p.Z, Phase: p.Phase})
	}
	for _, p := range high {
		rows = append(rows, api.Pauli{N: n, X: p.X << len(low), Z: p.Z << len(low), Phase: p.Phase})
	}
	return rows
}

// Order lets qubits change places (P14.8).
func Order(t api.Tableau, to []int) (api.Tableau, api.Errno) {
	if e := Check(t); e != api.OK {
		return api.Tableau{}, e
	}
	if len(to) != t.N || !unlike(to, t.N) {
		return api.Tableau{}, api.ErrArg
	}
	moved := blank(t.N)
	for i := range t.N {
		moved.Stab[i] = ordered(t.Stab[i], to)
		moved.Destab[i] = ordered(t.Destab[i], to)
	}
	return moved, api.OK
}

// ordered lets the letter of each qubit q go to qubit to[q].
func ordered(p api.Pauli, to []int) api.Pauli {
	moved := api.Pauli{N: p.N, Phase: p.Phase}
	for q := range p.N {
		moved.X |= (p.X >> q & 1) << to[q]
		moved.Z |= (p.Z >> q & 1) << to[q]
	}
	return moved
}
