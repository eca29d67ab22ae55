package pauli

import (
	"math/bits"

	"phasor/api"
)

// Mul multiplies (P13.2).
//
// A string is i to the power of its phase and of how many Y it has, times its X, times its Z. So a product's Z of the left must pass the X of the right, each pair of one qubit for a sign, and what the Y of both have more than the product's own goes to its phase.
func Mul(a api.Pauli, b api.Pauli) (api.Pauli, api.Errno) {
	if !fit(a, b) {
		return api.Pauli{}, api.ErrPauli
	}
	p := api.Pauli{N: a.N, X: a.X ^ b.X, Z: a.Z ^ b.Z}
	p.Phase = quarters(a.Phase + b.Phase + 2*common(a.Z, b.X) + ys(a) + ys(b) - ys(p))
	return p, api.OK
}

// Inverse is the inverse (P13.2): each letter is its own.
func Inverse(p api.Pauli) (api.Pauli, api.Errno) {
	if Check(p) != api.OK {
		return api.Pauli{}, api.ErrPauli
	}
	p.Phase = quarters(-p.Phase)
	return p, api.OK
}

// Commute tells whether strings commute (P13.2): letters of one qubit that are unlike and not I turn the sign.
func Commute(a api.Pauli, b api.Pauli) (bool, api.Errno) {
	if !fit(a, b) {
		return false, api.ErrPauli
	}
	return (common(a.X, b.Z)+common(a.Z, b.X))%2 == 0, api.OK
}

// fit tells whether strings are right and of as many qubits.
func fit(a, b api.Pauli) bool {
	return Check(a) == api.OK && Check(b) == api.OK && a.N == b.N
}

// common counts the bits that both have.
func common(a, b uint64) int { return bits.OnesCount64(a & b) }

// ys counts the letters Y.
func ys(p api.Pauli) int { return common(p.X, p.Z) }

// quarters takes a power of i to the one from 0 to 3 that is the same, of powers below 0, too.
func quarters(k int) int { return k & 3 }
