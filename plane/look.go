package plane

import (
	"phasor/api"
	"phasor/scalar"
)

// Equal tells whether numbers are equal.
func Equal(a complex128, b complex128) bool {
	return real(a) == real(b) && imag(a) == imag(b)
}

// Same tells whether numbers have the same bits.
func Same(a complex128, b complex128) bool {
	return scalar.Same(real(a), real(b)) && scalar.Same(imag(a), imag(b))
}

// Finite tells whether both parts are.
func Finite(a complex128) bool {
	return finite(real(a)) && finite(imag(a))
}

// Infinite tells whether a part is.
func Infinite(a complex128) bool {
	return scalar.Class(real(a)) == api.ClassInf || scalar.Class(imag(a)) == api.ClassInf
}

// finite tells whether a float is a number that is not infinite.
func finite(x float64) bool {
	c := scalar.Class(x)
	return c != api.ClassNaN && c != api.ClassInf
}
