package plane

import (
	"phasor/api"
	"phasor/scalar"
)

// mostHalves is how often Half may halve.
const mostHalves = 2000

// Neg turns both signs.
func Neg(a complex128) complex128 { return complex(-real(a), -imag(a)) }

// Conj turns the sign of the imaginary part.
func Conj(a complex128) complex128 { return complex(real(a), -imag(a)) }

// Turn multiplies by a power of i.
func Turn(a complex128, k int) complex128 {
	// The two lowest bits are k modulo 4 below nought, too, where Go's % is not.
	switch k & 3 {
	case 1:
		return complex(-imag(a), real(a))
	case 2:
		return Neg(a)
	case 3:
		return complex(imag(a), -real(a))
	}
	return a
}

// Clean takes the signs of noughts away.
func Clean(a complex128) complex128 {
	return complex(scalar.Plus(real(a)), scalar.Plus(imag(a)))
}

// Half divides by a power of two.
func Half(a complex128, n int) (complex128, api.Errno) {
	if n < 0 || n > mostHalves {
		return 0, api.ErrPlane
	}
	return complex(halved(real(a), n), halved(imag(a), n)), api.OK
}

// halved answers a float times two to the power -n. That power may be too small for a float, so a product would be rounded twice; what Split and Join give is rounded once.
func halved(x float64, n int) float64 {
	m, e, err := scalar.Split(x)
	if err != api.OK || m == 0 {
		return x
	}
	return scalar.Join(m, e-n)
}
