package density

import (
	"slices"

	"phasor/api"
	"phasor/plane"
	"phasor/state"
)

// Keep traces the other qubits out (P23.2).
func Keep(m api.Matrix, qubits []int) (api.Matrix, api.Errno) {
	n, e := Check(m)
	if e != api.OK || !unlike(qubits, n) {
		return api.Matrix{}, api.ErrDensity
	}
	kept, others := places(qubits), places(besides(qubits, n))
	terms := make([]complex128, len(others))
	return gather(len(kept), func(row, column int) complex128 {
		for i, other := range others {
			terms[i] = at(m, kept[row]|other, kept[column]|other)
		}
		return plane.Sum(terms)
	}), api.OK
}

// Product tells whether a state is one of two parts (P23.4).
func Product(s []complex128, qubits []int) (bool, api.Errno) {
	n, e := state.Check(s)
	if e != api.OK {
		return false, e
	}
	if n > mostQubits || !unlike(qubits, n) {
		return false, api.ErrDensity
	}
	kept, others := places(qubits), places(besides(qubits, n))
	for _, i := range kept {
		for _, j := range kept {
			if !crossed(s, i, j, others) {
				return false, api.OK
			}
		}
	}
	return true, api.OK
}

// crossed tells whether two places of the one part have with all places of the other the same products crosswise. A place is held against itself, too: where products overflow, or there is a NaN, it may not be equal.
func crossed(s []complex128, i, j int, others []int) bool {
	for _, k := range others {
		for _, l := range others {
			if !plane.Equal(plane.Mul(s[i|k], s[j|l]), plane.Mul(s[i|l], s[j|k])) {
				return false
			}
		}
	}
	return true
}

// unlike tells whether qubits are from 0 to below n, and no two are one. However many there are, no more than n and one are looked at.
func unlike(qubits []int, n int) bool {
	for i, q := range qubits {
		if q < 0 || q >= n || slices.Contains(qubits[:i], q) {
			return false
		}
	}
	return true
}

// besides answers the other ones of n qubits, rising.
func besides(qubits []int, n int) []int {
	others := make([]int, 0, n)
	for q := range n {
		if !slices.Contains(qubits, q) {
			others = append(others, q)
		}
	}
	return others
}

// places answers, index by index, the place that has the index's bits at some qubits, and nothing elsewhere.
func places(qubits []int) []int {
	l := make([]int, 1<<len(qubits))
	for index := range l {
		for t, q := range qubits {
			l[index] |= (index >> t & 1) << q
		}
	}
	return l
}
