package dyad

import (
	"phasor/api"
	"phasor/plane"
	"phasor/scalar"
)

// From makes a dyad of a complex number.
func From(z complex128) (api.Dyad, api.Errno) {
	re, e := part(real(z))
	if e != api.OK {
		return api.Dyad{}, e
	}
	im, e := part(imag(z))
	if e != api.OK {
		return api.Dyad{}, e
	}
	im, _ = Turn(im, 1) // never refused: part makes right ones
	return Add(re, im)
}

// To makes a complex number of a dyad.
func To(d api.Dyad) (complex128, api.Errno) {
	if e := Check(d); e != api.OK {
		return 0, e
	}
	return plane.Half(complex(float64(d.Re), float64(d.Im)), d.Exp)
}

// part is the dyad of a float alone. A dyad of both parts is there only if each of them has one.
func part(x float64) (api.Dyad, api.Errno) {
	odd, power, e := scalar.Split(x)
	if e != api.OK || x < -maxPart || x > maxPart {
		return api.Dyad{}, api.ErrExact
	}
	if power < 0 {
		return Make(odd, 0, -power)
	}
	return Make(int64(x), 0, 0)
}
