package plane

import "phasor/api"

// Fourier is the Fourier transform of one, two or four numbers.
func Fourier(l []complex128) ([]complex128, api.Errno) {
	if !turnable(len(l)) {
		return nil, api.ErrPlane
	}
	return waves(l, 1), api.OK
}

// Back undoes it.
func Back(l []complex128) ([]complex128, api.Errno) {
	n := len(l)
	if !turnable(n) {
		return nil, api.ErrPlane
	}
	out := waves(l, -1)
	for j, z := range out {
		// Half of 1, 2, 4, cut, happens to be the power of two that each is.
		out[j], _ = Half(z, n/2)
	}
	return out, api.OK
}

// turnable tells whether the roots of one of that number are powers of i.
func turnable(n int) bool { return n == 1 || n == 2 || n == 4 }

// waves sums the numbers, turned by steps of each wave: forth, or back where way is -1.
func waves(l []complex128, way int) []complex128 {
	n := len(l)
	out := make([]complex128, n)
	for j := range out {
		turned := make([]complex128, n)
		for k, z := range l {
			turned[k] = Turn(z, way*j*k*(4/n))
		}
		out[j] = Sum(turned)
	}
	return out
}
