package gate

import (
	"slices"

	"phasor/api"
	"phasor/plane"
)

// Check tells whether a gate may have these qubits.
func Check(k api.GateKind, qubits []int, n int) api.Errno {
	if !known(k) {
		return api.ErrGate
	}
	if !apart(k, qubits) || slices.Max(qubits) >= n {
		return api.ErrWire
	}
	return api.OK
}

// apart tells whether these are as many qubits as a gate has, none of them below 0 and no two of them one.
func apart(k api.GateKind, qubits []int) bool {
	if len(qubits) != Arity(k) {
		return false
	}
	for i, q := range qubits {
		if q < 0 || slices.Contains(qubits[:i], q) {
			return false
		}
	}
	return true
}

// Commute tells whether two gates may change places.
func Commute(a api.GateKind, aq []int, b api.GateKind, bq []int) (bool, api.Errno) {
	if !known(a) || !known(b) {
		return false, api.ErrGate
	}
	if !apart(a, aq) || !apart(b, bq) {
		return false, api.ErrWire
	}
	all := slices.Clone(aq)
	for _, q := range bq {
		if !slices.Contains(aq, q) {
			all = append(all, q)
		}
	}
	// Where no qubit is in common there is nothing to reckon, and the matrices would be the greatest.
	if len(all) == len(aq)+len(bq) {
		return true, api.OK
	}
	return alike(placed(a, aq, all), placed(b, bq, all), 1<<len(all)), api.OK
}

// step makes of amplitudes those behind a gate.
type step func(amplitudes []complex128) []complex128

// placed answers what a gate does on its qubits among all.
func placed(k api.GateKind, qubits, all []int) step {
	m, _ := Matrix(k)
	at := make([]int, len(qubits))
	for t, q := range qubits {
		at[t] = slices.Index(all, q)
	}
	return func(amplitudes []complex128) []complex128 {
		behind := make([]complex128, len(amplitudes))
		for place, x := range amplitudes {
			if plane.Equal(x, 0) {
				continue
			}
			column := gather(place, at)
			for row := range m.N {
				to := scatter(place, at, row)
				behind[to] = plane.Add(behind[to], plane.Mul(m.E[m.N*row+column], x))
			}
		}
		return behind
	}
}

// gather answers the index that the bits of a place at some qubits are.
func gather(place int, at []int) int {
	index := 0
	for t, q := range at {
		index |= (place >> q & 1) << t
	}
	return index
}

// scatter answers the place with the bits of an index at some qubits.
func scatter(place int, at []int, index int) int {
	for t, q := range at {
		place = place&^(1<<q) | (index>>t&1)<<q
	}
	return place
}

// alike tells whether two steps make the same of each basis state in either order: its amplitudes are then a column of both products.
func alike(a, b step, size int) bool {
	for column := range size {
		basis := make([]complex128, size)
		basis[column] = 1
		if !slices.EqualFunc(a(b(basis)), b(a(basis)), plane.Equal) {
			return false
		}
	}
	return true
}
