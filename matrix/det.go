package matrix

import (
	"phasor/api"
	"phasor/plane"
)

// mostDet is how many rows a matrix may have whose determinant is asked: its terms are as many as there are orders of rows.
const mostDet = 6

// Minor is a matrix without a row and a column.
func Minor(m api.Matrix, row int, column int) (api.Matrix, api.Errno) {
	if Check(m) != api.OK || m.N < 2 || !within(row, m.N) || !within(column, m.N) {
		return api.Matrix{}, api.ErrShape
	}
	return without(m, row, column), api.OK
}

// Det is the determinant.
func Det(m api.Matrix) (complex128, api.Errno) {
	if e := checkDet(m); e != api.OK {
		return 0, e
	}
	return det(m), api.OK
}

// Adjugate is the adjugate matrix.
func Adjugate(m api.Matrix) (api.Matrix, api.Errno) {
	if e := checkDet(m); e != api.OK {
		return api.Matrix{}, e
	}
	if m.N == 1 {
		return Identity(1)
	}
	return fill(m.N, func(row, column int) complex128 {
		return signed(det(without(m, column, row)), row+column)
	}), api.OK
}

func within(i, n int) bool { return i >= 0 && i < n }

func checkDet(m api.Matrix) api.Errno {
	if e := Check(m); e != api.OK {
		return e
	}
	if m.N > mostDet {
		return api.ErrBig
	}
	return api.OK
}

// det goes down by the first row. Of a term the whole product is turned, not one of its factors: a nought's sign tells.
func det(m api.Matrix) complex128 {
	if m.N == 1 {
		return m.E[0]
	}
	return sum(m.N, func(column int) complex128 {
		return signed(plane.Mul(at(m, 0, column), det(without(m, 0, column))), column)
	})
}

// signed turns a number whose place is odd.
func signed(z complex128, place int) complex128 {
	return plane.Turn(z, place%2*2)
}

func without(m api.Matrix, row, column int) api.Matrix {
	return fill(m.N-1, func(i, j int) complex128 {
		return at(m, skip(i, row), skip(j, column))
	})
}

// skip answers which row or column of a matrix comes to place i where one of them is left out.
func skip(i, left int) int {
	if i >= left {
		return i + 1
	}
	return i
}
