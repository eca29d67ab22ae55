package plane_test

import (
	"testing"

	"phasor/plane"
)

// P3.1: sums and differences part by part, of any parts.
func TestAddAndSub(t *testing.T) {
	pairs(func(a, b complex128) {
		want(t, "Add", plane.Add(a, b), complex(real(a)+real(b), imag(a)+imag(b)))
		want(t, "Sub", plane.Sub(a, b), complex(real(a)-real(b), imag(a)-imag(b)))
	})
	want(t, "Add", plane.Add(1+2i, 3-5i), 4-3i)
	want(t, "Sub", plane.Sub(1+2i, 3-5i), -2+7i)
	want(t, "Add of noughts", plane.Add(complex(minus0, minus0), complex(minus0, 0)), complex(minus0, 0))
	want(t, "Sub of noughts", plane.Sub(complex(minus0, 0), complex(0, 0)), complex(minus0, 0))
	want(t, "rounded parts", plane.Add(1<<53+1i, 1+2i), 1<<53+3i)
}

// P3.1: products by hand: which part is which, and what infinities, noughts and NaN give.
func TestMul(t *testing.T) {
	for _, c := range [][3]complex128{
		{1 + 2i, 3 + 4i, -5 + 10i},
		{3 + 4i, 1 + 2i, -5 + 10i},
		{2 + 3i, 5 - 7i, 31 + 1i},
		{1i, 1i, -1},
		{2, 3i, 6i},
		{0, 0, 0},
		{complex(minus0, 0), 1, complex(minus0, 0)},
		{complex(0, minus0), 1, complex(0, 0)},
		{complex(0, minus0), complex(-1, 0), complex(0, 0)},
		{complex(minus0, minus0), complex(1, minus0), complex(minus0, 0)},
		{complex(0, minus0), complex(0, -1), complex(0, minus0)},
		{complex(inf, 0), complex(0, 1), complex(nan, inf)},
		{complex(inf, 1), complex(2, 3), complex(inf, inf)},
		{complex(inf, inf), complex(1, 1), complex(nan, inf)},
		{complex(nan, 0), 1, complex(nan, nan)},
		{complex(0, most), complex(0, 2), complex(-inf, 0)},
		{complex(least, 0), complex(0.5, 0.75), complex(0, least)},
	} {
		if got := plane.Mul(c[0], c[1]); !same(got, c[2]) {
			t.Errorf("%x * %x: %x, not %x", c[0], c[1], got, c[2])
		}
	}
}

// P3.1: each of the four products is rounded by itself: reckoned together with the sum, what was rounded off would be seen.
func TestMulRoundsEachProduct(t *testing.T) {
	up, down := 1+0x1p-30, 1-0x1p-30 // their product is 1 - 2^-60, rounded 1
	want(t, "the first product", plane.Mul(complex(up, 1), complex(down, 1)), complex(0, up+down))
	want(t, "the second product", plane.Mul(complex(1, up), complex(1, down)), complex(0, up+down))
	want(t, "the third product", plane.Mul(complex(up, -1), complex(1, down)), complex(up+down, 0))
	want(t, "the fourth product", plane.Mul(complex(-1, up), complex(down, 1)), complex(-up-down, 0))
	pairs(func(a, b complex128) {
		products := [4]float64{real(a) * real(b), imag(a) * imag(b), real(a) * imag(b), imag(a) * real(b)}
		want(t, "Mul", plane.Mul(a, b), complex(products[0]-products[1], products[2]+products[3]))
	})
}

// P3.4: the square of the magnitude, both products rounded by themselves.
func TestSquare(t *testing.T) {
	for _, c := range []struct {
		a    complex128
		want float64
	}{
		{3 - 4i, 25}, {0, 0}, {complex(minus0, minus0), 0}, {-2, 4}, {-2i, 4},
		{complex(inf, 0), inf}, {complex(0, -inf), inf}, {complex(nan, inf), nan}, {complex(0, nan), nan},
		{complex(most, 0), inf}, {complex(0x1p-537, 0), least}, {complex(0x1p-538, 0), 0}, {complex(0x1p-538, 0x1p-538), 0},
		// (1 + 2^-27)^2 is above 1 + 2^-26 by 2^-54, which is rounded off ahead of the sum; kept, it would turn the sum.
		{complex(1+0x1p-27, 0x1.4p-27), 1 + 0x1p-26},
		{complex(0x1.4p-27, 1+0x1p-27), 1 + 0x1p-26},
	} {
		wantFloat(t, "Square", plane.Square(c.a), c.want)
	}
	for _, a := range numbers() {
		squares := [2]float64{real(a) * real(a), imag(a) * imag(a)}
		wantFloat(t, "Square", plane.Square(a), squares[0]+squares[1])
	}
}

// P3.6: quotients by hand: of a nought, of infinities and NaN, and of what has too great or too small a square, too.
func TestDiv(t *testing.T) {
	for _, c := range [][3]complex128{
		{1, 1i, -1i},
		{3 + 4i, 1 - 2i, -1 + 2i},
		{-5 + 10i, 3 + 4i, 1 + 2i},
		{5, 3 + 4i, complex(15./25, -20./25)},
		{1, 3, complex(3./9, 0)},
		{1, 0, complex(nan, nan)},
		{0, 0, complex(nan, nan)},
		{complex(inf, 0), 0, complex(nan, nan)},
		{1, complex(inf, 0), complex(nan, nan)},
		{complex(inf, 0), 1, complex(inf, nan)},
		{complex(inf, inf), 1, complex(nan, nan)},
		{complex(nan, 0), 1, complex(nan, nan)},
		{1, complex(0, nan), complex(nan, nan)},
		{1, complex(0x1p-600, 0), complex(inf, nan)},
		{1, complex(0x1p600, 0), 0},
		{complex(minus0, minus0), -1, 0},
		{complex(minus0, 1), complex(minus0, 1), 1},
	} {
		if got := plane.Div(c[0], c[1]); !same(got, c[2]) {
			t.Errorf("%x / %x: %x, not %x", c[0], c[1], got, c[2])
		}
	}
}

// P3.6: of any parts the quotients are those of the formula, and not of one that keeps squares from being too great.
func TestDivByItsFormula(t *testing.T) {
	pairs(func(a, b complex128) {
		x, y := real(b), -imag(b)
		products := [6]float64{real(a) * x, imag(a) * y, real(a) * y, imag(a) * x, x * x, y * y}
		d := products[4] + products[5]
		want(t, "Div", plane.Div(a, b), complex((products[0]-products[1])/d, (products[2]+products[3])/d))
	})
	// A product with 1/441 would be another float.
	want(t, "Div by 21", plane.Div(1, 21), complex(21./441, 0))
}
