package plane

import "phasor/api"

// Sum adds from the left. It begins with the first number and not with nought, which would take the sign of a first nought away.
func Sum(l []complex128) complex128 {
	if len(l) == 0 {
		return 0
	}
	sum := l[0]
	for _, z := range l[1:] {
		sum = Add(sum, z)
	}
	return sum
}

// Pairwise adds by halves.
func Pairwise(l []complex128) complex128 {
	n := len(l)
	switch n {
	case 0:
		return 0
	case 1:
		return l[0]
	}
	cut := n - n/2
	return Add(Pairwise(l[:cut]), Pairwise(l[cut:]))
}

// Dot is the inner product.
func Dot(a []complex128, b []complex128) (complex128, api.Errno) {
	if len(a) != len(b) {
		return 0, api.ErrPlane
	}
	products := make([]complex128, len(a))
	for k := range a {
		products[k] = Mul(Conj(a[k]), b[k])
	}
	return Sum(products), api.OK
}

// Horner reckons a polynomial.
func Horner(l []complex128, z complex128) complex128 {
	if len(l) == 0 {
		return 0
	}
	last := len(l) - 1
	r := l[last]
	for k := last - 1; k >= 0; k-- {
		r = Add(Mul(r, z), l[k])
	}
	return r
}
