package dyad

import (
	"math/bits"

	"phasor/api"
)

// Add adds.
func Add(a api.Dyad, b api.Dyad) (api.Dyad, api.Errno) {
	if Check(a) != api.OK || Check(b) != api.OK {
		return api.Dyad{}, api.ErrArg
	}
	exp := max(a.Exp, b.Exp)
	re, im, fits := over(a, exp)
	moreRe, moreIm, moreFits := over(b, exp)
	if !fits || !moreFits {
		return api.Dyad{}, api.ErrExact
	}
	return halved(re+moreRe, im+moreIm, exp)
}

// Sub subtracts.
func Sub(a api.Dyad, b api.Dyad) (api.Dyad, api.Errno) {
	less, e := Turn(b, 2)
	if e != api.OK {
		return api.Dyad{}, e
	}
	return Add(a, less)
}

// Mul multiplies.
func Mul(a api.Dyad, b api.Dyad) (api.Dyad, api.Errno) {
	if Check(a) != api.OK || Check(b) != api.OK {
		return api.Dyad{}, api.ErrArg
	}
	// The greatest of the four products is that of the greater part of each.
	most, least := bits.Mul64(max(size(a.Re), size(a.Im)), max(size(b.Re), size(b.Im)))
	if most > 0 || least > maxProduct {
		return api.Dyad{}, api.ErrExact
	}
	return halved(a.Re*b.Re-a.Im*b.Im, a.Re*b.Im+a.Im*b.Re, a.Exp+b.Exp)
}

// Turn multiplies by a power of i.
func Turn(a api.Dyad, k int) (api.Dyad, api.Errno) {
	if e := Check(a); e != api.OK {
		return api.Dyad{}, e
	}
	switch k & 3 { // the remainder from 0 on, of a k below 0, too
	case 1:
		a.Re, a.Im = -a.Im, a.Re
	case 2:
		a.Re, a.Im = -a.Re, -a.Im
	case 3:
		a.Re, a.Im = a.Im, -a.Re
	}
	return a, api.OK
}

// Conj is the conjugate.
func Conj(a api.Dyad) (api.Dyad, api.Errno) {
	if e := Check(a); e != api.OK {
		return api.Dyad{}, e
	}
	a.Im = -a.Im
	return a, api.OK
}

// Square is the square of the magnitude.
func Square(a api.Dyad) (api.Dyad, api.Errno) {
	other, e := Conj(a)
	if e != api.OK {
		return api.Dyad{}, e
	}
	return Mul(a, other)
}

// over is a dyad's parts over 2^exp, which is no less than its own power. Parts of more than 62 bits do not fit, and no sum brings them back: what is brought over another's power is even, and that other one, having this power, is not, so that the sum cannot be halved.
func over(d api.Dyad, exp int) (re, im int64, fits bool) {
	up := exp - d.Exp
	if bits.Len64(size(d.Re)|size(d.Im))+up > 62 {
		return 0, 0, false
	}
	return d.Re << up, d.Im << up, true
}
