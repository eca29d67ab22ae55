package scalar

import (
	"math"

	"phasor/api"
)

// Class tells a float's class.
func Class(x float64) api.Class {
	switch magnitude := Bits(x) &^ bitSign; {
	case magnitude > bitsInf:
		return api.ClassNaN
	case magnitude == bitsInf:
		return api.ClassInf
	case magnitude >= bitHidden:
		return api.ClassNormal
	case magnitude > 0:
		return api.ClassSubnormal
	}
	return api.ClassZero
}

// Signed tells whether a float has its sign bit set; a NaN has none.
func Signed(x float64) bool { return Bits(x)&bitSign != 0 }

// Bits answers a float's bits; all NaNs have the same.
func Bits(x float64) uint64 {
	if x != x {
		return bitsNaN
	}
	return math.Float64bits(x)
}

// Of answers the float of bits.
func Of(b uint64) float64 { return math.Float64frombits(b) }
