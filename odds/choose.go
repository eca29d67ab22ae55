package odds

import (
	"phasor/api"
	"phasor/plane"
	"phasor/scalar"
	"phasor/state"
)

// Choose decides by a number (P11.3).
func Choose(zero float64, one float64, u float64) (int, api.Errno) {
	sum := zero + one
	if !isWeight(zero) || !isWeight(one) || !isWeight(sum) || sum == 0 || !isFraction(u) {
		return 0, api.ErrOdds
	}
	// A 0 that weighs nothing must not come, though the product may be rounded up to the whole; a 1 that weighs nothing can't, as no product is below 0.
	if zero == 0 || float64(u*sum) < one {
		return 1, api.OK
	}
	return 0, api.OK
}

// Sample picks a place by a number (P11.5).
func Sample(s []complex128, u float64) (int, api.Errno) {
	whole, e := state.Weight(s)
	if e != api.OK {
		return 0, e
	}
	if !isWeight(whole) || whole == 0 || !isFraction(u) {
		return 0, api.ErrOdds
	}
	return reach(s, float64(u*whole)), api.OK
}

// reach answers the least place up to which a state weighs more than a bound. Of the least weights a part may be rounded up to the whole, which no place exceeds: then it is the last that weighs something.
func reach(s []complex128, bound float64) int {
	sum, last := 0.0, 0
	for place, z := range s {
		square := plane.Square(z)
		sum += square
		if bound < sum {
			return place
		}
		if square > 0 {
			last = place
		}
	}
	return last
}

// isWeight tells whether a float is finite and not below 0.
func isWeight(x float64) bool {
	c := scalar.Class(x)
	return c != api.ClassNaN && c != api.ClassInf && x >= 0
}

// isFraction tells whether a float is from 0 to below 1.
func isFraction(u float64) bool { return u >= 0 && u < 1 }
