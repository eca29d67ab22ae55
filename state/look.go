package state

import (
	"slices"

	"phasor/api"
	"phasor/plane"
	"phasor/scalar"
)

// mostHalves is with how many halves a state may be asked to be exact.
const mostHalves = 1000

// Weight is the sum of the squares.
func Weight(s []complex128) (float64, api.Errno) {
	if !right(s) {
		return 0, api.ErrState
	}
	weight := plane.Square(s[0])
	for _, z := range s[1:] {
		weight += plane.Square(z)
	}
	return weight, api.OK
}

// Dot is the inner product.
func Dot(a []complex128, b []complex128) (complex128, api.Errno) {
	if !fit(a, b) {
		return 0, api.ErrState
	}
	return plane.Dot(a, b)
}

// Same tells whether states have the same bits.
func Same(a []complex128, b []complex128) bool {
	return fit(a, b) && slices.EqualFunc(a, b, plane.Same)
}

// Equal tells whether states are equal.
func Equal(a []complex128, b []complex128) bool {
	return fit(a, b) && slices.EqualFunc(a, b, plane.Equal)
}

// Phase tells by which power of i states part.
func Phase(a []complex128, b []complex128) int {
	if !fit(a, b) {
		return -1
	}
	for k := range 4 {
		if slices.EqualFunc(a, b, func(x, y complex128) bool { return plane.Equal(x, plane.Turn(y, k)) }) {
			return k
		}
	}
	return -1
}

// Exact tells whether a state is exact. What is exact with some halves is so with more.
func Exact(s []complex128, halves int) bool {
	least := Halves(s)
	return least >= 0 && least <= halves && halves <= mostHalves
}

// Halves tells with how many halves a state is exact.
func Halves(s []complex128) int {
	if !right(s) {
		return -1
	}
	most := 0
	for _, z := range s {
		for _, x := range [2]float64{real(z), imag(z)} {
			halves, ok := halvesOf(x)
			if !ok {
				return -1
			}
			most = max(most, halves)
		}
	}
	return most
}

// halvesOf answers the least number of halves with which a part is exact, and whether there is one.
func halvesOf(x float64) (int, bool) {
	if !(x >= -1 && x <= 1) || x == 0 && scalar.Signed(x) {
		return 0, false
	}
	_, power, _ := scalar.Split(x)
	return max(-power, 0), -power <= mostHalves
}
