package state

import (
	"phasor/api"
	"phasor/plane"
)

// Fourier is the Fourier transform of two qubits.
func Fourier(s []complex128, low int, high int) ([]complex128, api.Errno) {
	return waves(s, low, high, 1)
}

// Back undoes it.
func Back(s []complex128, low int, high int) ([]complex128, api.Errno) {
	return waves(s, low, high, -1)
}

// waves turns each group of four. Turns go round after four, so that the sum of turns by -j * k is number -j, modulo 4, of layer 3's Fourier, to the bit; layer 3's Back would halve otherwise.
func waves(s []complex128, low, high, way int) ([]complex128, api.Errno) {
	n, e := Check(s)
	if e != api.OK || low < 0 || low >= n || high < 0 || high >= n || low == high {
		return nil, api.ErrState
	}
	turned := make([]complex128, len(s))
	for k := range s {
		if k>>low&1 == 1 || k>>high&1 == 1 {
			continue
		}
		group := [4]int{k, k | 1<<low, k | 1<<high, k | 1<<low | 1<<high}
		l, _ := plane.Fourier([]complex128{s[group[0]], s[group[1]], s[group[2]], s[group[3]]})
		for j, place := range group {
			turned[place] = plane.Clean(half(l[(way*j+4)%4]))
		}
	}
	return turned, api.OK
}

// half converts each product, so that no machine may reckon it together with the nought that cleaning adds: a half that is rounded to -0 would keep its sign.
func half(z complex128) complex128 {
	return complex(float64(real(z)*0.5), float64(imag(z)*0.5))
}
