package expect

import (
	"phasor/api"
	"phasor/pauli"
	"phasor/plane"
	"phasor/scalar"
	"phasor/state"
)

// Energy answers that of a sum of strings (P22.2).
func Energy(s []complex128, terms []api.Term) (float64, api.Errno) {
	if e := refused(s, terms); e != api.OK {
		return 0, e
	}
	products := make([]float64, len(terms))
	for i, term := range terms {
		value, _ := Value(s, term.P)
		products[i] = float64(term.Coef * real(value))
	}
	return scalar.Sum(products), api.OK
}

// Image answers what a sum of strings makes of a state (P22.9).
func Image(s []complex128, terms []api.Term) ([]complex128, api.Errno) {
	if e := refused(s, terms); e != api.OK {
		return nil, e
	}
	// Sums are begun with noughts that have no sign, and not with the first term: so they come out cleaned, and are the same besides.
	sum := make([]complex128, len(s))
	for _, term := range terms {
		moved, _ := pauli.Act(term.P, s)
		for place, z := range moved {
			sum[place] = plane.Add(sum[place], times(term.Coef, z))
		}
	}
	return sum, api.OK
}

// Spread answers the mean and the mean square of a sum of strings (P22.9).
func Spread(s []complex128, terms []api.Term) (float64, float64, api.Errno) {
	image, e := Image(s, terms)
	if e != api.OK {
		return 0, 0, e
	}
	mean, _ := state.Dot(s, image)
	square, _ := state.Weight(image)
	return real(mean), square, api.OK
}

// refused tells why a sum of strings has no expectation.
func refused(s []complex128, terms []api.Term) api.Errno {
	n, e := state.Check(s)
	if e != api.OK {
		return e
	}
	for _, term := range terms {
		if !pauli.Hermitian(term.P) || term.P.N != n || !finite(term.Coef) {
			return api.ErrExpect
		}
	}
	return api.OK
}

func finite(x float64) bool {
	class := scalar.Class(x)
	return class != api.ClassNaN && class != api.ClassInf
}

// times multiplies both parts. Each product is converted, so that no machine may leave its rounding out and reckon it together with the sum.
func times(x float64, z complex128) complex128 {
	return complex(float64(x*real(z)), float64(x*imag(z)))
}
