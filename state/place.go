package state

import (
	"phasor/api"
	"phasor/plane"
)

// Kron puts two states together.
func Kron(high []complex128, low []complex128) ([]complex128, api.Errno) {
	if !right(high) || !right(low) || len(high)*len(low) > 1<<api.MaxQubits {
		return nil, api.ErrState
	}
	both := make([]complex128, 0, len(high)*len(low))
	for _, x := range high {
		for _, y := range low {
			both = append(both, plane.Mul(x, y))
		}
	}
	return both, api.OK
}

// Order gives the qubits other places.
func Order(s []complex128, to []int) ([]complex128, api.Errno) {
	n, e := Check(s)
	if e != api.OK || len(to) != n || !unlike(to) {
		return nil, api.ErrState
	}
	return moved(s, func(k int) int { return scatter(k, to) }), api.OK
}

// Shift moves all amplitudes round.
func Shift(s []complex128, by int) ([]complex128, api.Errno) {
	if !right(s) {
		return nil, api.ErrState
	}
	// Taken below the number of places first: the greatest by and a place added to it would be too great.
	by %= len(s)
	return moved(s, func(k int) int { return (k + by + len(s)) % len(s) }), api.OK
}

// moved is the state whose amplitude of each place goes where it is told.
func moved(s []complex128, where func(k int) int) []complex128 {
	to := make([]complex128, len(s))
	for k, z := range s {
		to[where(k)] = z
	}
	return to
}

// unlike tells whether numbers are those from 0 on, in any order.
func unlike(to []int) bool {
	seen := 0
	for _, q := range to {
		if q < 0 || q >= len(to) || seen>>q&1 == 1 {
			return false
		}
		seen |= 1 << q
	}
	return true
}

// scatter answers the place whose bit to[q] is bit q of k.
func scatter(k int, to []int) int {
	place := 0
	for q, bit := range to {
		place |= (k >> q & 1) << bit
	}
	return place
}
