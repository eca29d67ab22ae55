package matrix

import (
	"phasor/api"
	"phasor/plane"
)

// mostPower is how often Power may multiply.
const mostPower = 64

// Mul multiplies.
func Mul(a api.Matrix, b api.Matrix) (api.Matrix, api.Errno) {
	if !fit(a, b) {
		return api.Matrix{}, api.ErrShape
	}
	return fill(a.N, func(row, column int) complex128 {
		return sum(a.N, func(k int) complex128 {
			return plane.Mul(at(a, row, k), at(b, k, column))
		})
	}), api.OK
}

// Kron is the Kronecker product.
func Kron(a api.Matrix, b api.Matrix) (api.Matrix, api.Errno) {
	if Check(a) != api.OK || Check(b) != api.OK {
		return api.Matrix{}, api.ErrShape
	}
	if a.N*b.N > api.MaxSide {
		return api.Matrix{}, api.ErrBig
	}
	return fill(a.N*b.N, func(row, column int) complex128 {
		return plane.Mul(at(a, row/b.N, column/b.N), at(b, row%b.N, column%b.N))
	}), api.OK
}

// Act applies a matrix to numbers.
func Act(m api.Matrix, v []complex128) ([]complex128, api.Errno) {
	if Check(m) != api.OK || len(v) != m.N {
		return nil, api.ErrShape
	}
	l := make([]complex128, m.N)
	for row := range l {
		l[row] = sum(m.N, func(k int) complex128 {
			return plane.Mul(at(m, row, k), v[k])
		})
	}
	return l, api.OK
}

// Power multiplies a matrix with itself. It multiplies as often as it is told, from the identity on: a shorter way would round otherwise.
func Power(m api.Matrix, k int) (api.Matrix, api.Errno) {
	if Check(m) != api.OK || k < 0 || k > mostPower {
		return api.Matrix{}, api.ErrShape
	}
	p, e := Identity(m.N)
	for range k {
		p, e = Mul(p, m)
	}
	return p, e
}
