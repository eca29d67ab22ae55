package state

import (
	"phasor/api"
	"phasor/plane"
)

// Turn turns all amplitudes.
func Turn(s []complex128, k int) ([]complex128, api.Errno) {
	return each(s, func(z complex128) complex128 { return plane.Turn(z, k) })
}

// Conj is the conjugate state.
func Conj(s []complex128) ([]complex128, api.Errno) {
	return each(s, plane.Conj)
}

// Clean takes the signs of noughts away.
func Clean(s []complex128) ([]complex128, api.Errno) {
	return each(s, plane.Clean)
}

func each(s []complex128, turn func(complex128) complex128) ([]complex128, api.Errno) {
	if !right(s) {
		return nil, api.ErrState
	}
	turned := make([]complex128, len(s))
	for k, z := range s {
		turned[k] = turn(z)
	}
	return turned, api.OK
}
