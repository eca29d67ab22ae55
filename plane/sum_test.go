package plane_test

import (
	"math/rand"
	"slices"
	"testing"

	"phasor/api"
	"phasor/plane"
)

// P3.5: sums of few numbers; that of one is it itself, with the signs of its noughts.
func TestSumAndPairwiseOfFew(t *testing.T) {
	for _, f := range []func([]complex128) complex128{plane.Sum, plane.Pairwise} {
		want(t, "of none", f(nil), 0)
		want(t, "of an empty list", f([]complex128{}), 0)
		for _, a := range numbers() {
			want(t, "of one", f([]complex128{a}), a)
		}
		want(t, "of two", f([]complex128{1 + 2i, 3 - 5i}), 4-3i)
		want(t, "of two noughts", f([]complex128{complex(minus0, minus0), complex(minus0, 0)}), complex(minus0, 0))
		want(t, "of infinities", f([]complex128{complex(inf, inf), complex(-inf, inf)}), complex(nan, inf))
	}
}

// P3.5: Sum is rounded from the left, Pairwise by halves of which the first is the greater.
func TestSumAndPairwiseRound(t *testing.T) {
	const big = 1 << 53
	for _, c := range []struct {
		l         []complex128
		sum, pair complex128
	}{
		{[]complex128{1, big, 1, -big}, 0, 1},
		{[]complex128{1, 1, big}, big + 2, big + 2},
		{[]complex128{big, 1, 1}, big, big},
		{[]complex128{big, 1, -big}, 0, 0},
		{[]complex128{1, big, -big}, 0, 0},
		{[]complex128{big, -big, 1}, 1, 1},
		// Three and two: (big + 1) + 1, and 1 + 1.
		{[]complex128{big, 1, 1, 1, 1}, big, big + 2},
		// The first three: two and one.
		{[]complex128{1, 1, big, 1, 1}, big + 4, big + 4},
		{[]complex128{1i, big * 1i, 1i, -big * 1i}, 0, 1i},
	} {
		want(t, "Sum", plane.Sum(c.l), c.sum)
		want(t, "Pairwise", plane.Pairwise(c.l), c.pair)
	}
}

// P3.5: of lists of many lengths, held against sums that are reckoned from their definitions; the lists stay as they are.
func TestSumAndPairwiseOfMany(t *testing.T) {
	chance := rand.New(rand.NewSource(35))
	for n := 1; n <= 200; n++ {
		l := make([]complex128, n)
		for i := range l {
			l[i] = complex(chance.NormFloat64(), chance.NormFloat64()*1e9)
		}
		before := slices.Clone(l)
		want(t, "Sum", plane.Sum(l), leftSum(l))
		want(t, "Pairwise", plane.Pairwise(l), complex(halves(l, func(z complex128) float64 { return real(z) }), halves(l, func(z complex128) float64 { return imag(z) })))
		if !slices.Equal(before, l) {
			t.Fatal("the list was changed")
		}
	}
}

func leftSum(l []complex128) complex128 {
	last := len(l) - 1
	if last == 0 {
		return l[0]
	}
	ahead := leftSum(l[:last])
	return complex(real(ahead)+real(l[last]), imag(ahead)+imag(l[last]))
}

func halves(l []complex128, part func(complex128) float64) float64 {
	if len(l) == 1 {
		return part(l[0])
	}
	behind := len(l) / 2
	ahead := len(l) - behind
	return halves(l[:ahead], part) + halves(l[ahead:], part)
}

// P3.5: the first of the factors is conjugate, and lists that are not as many are refused.
func TestDot(t *testing.T) {
	for _, c := range []struct {
		a, b []complex128
		want complex128
	}{
		{nil, nil, 0},
		{nil, []complex128{}, 0},
		{[]complex128{1i}, []complex128{1}, -1i},
		{[]complex128{1}, []complex128{1i}, 1i},
		{[]complex128{1i, 2}, []complex128{1i, 1i}, 1 + 2i},
		{[]complex128{1 + 2i, 3}, []complex128{3 + 4i, 5i}, 11 + 13i},
		// Of one product the sign of a nought stays.
		{[]complex128{complex(1, 0)}, []complex128{complex(minus0, minus0)}, complex(minus0, 0)},
		{[]complex128{complex(minus0, 0)}, []complex128{1}, complex(0, minus0)},
		// From the left: 2^53 + 1 is rounded.
		{[]complex128{1 << 53, 1, 1 << 53}, []complex128{1, 1, -1}, 0},
		{[]complex128{1, 1 << 53, 1, 1 << 53}, []complex128{1, 1, 1, -1}, 0},
		{[]complex128{complex(inf, 0)}, []complex128{1}, complex(inf, nan)},
	} {
		if z, e := plane.Dot(c.a, c.b); !same(z, c.want) || e != api.OK {
			t.Errorf("%x %x: %x %d, not %x", c.a, c.b, z, e, c.want)
		}
	}
	for _, n := range [][2]int{{0, 1}, {1, 0}, {2, 3}, {3, 2}, {100, 1}} {
		if z, e := plane.Dot(slices.Repeat([]complex128{1}, n[0]), slices.Repeat([]complex128{1}, n[1])); !same(z, 0) || e != api.ErrPlane {
			t.Errorf("%d: %x %d", n, z, e)
		}
	}
}

// P3.5: of any parts Dot is the sum of the products, and the lists stay as they are.
func TestDotByItsFormula(t *testing.T) {
	pairs(func(a, b complex128) {
		l, m := []complex128{a, b, 1i}, []complex128{b, a, a}
		products := make([]complex128, 3)
		for k := range l {
			x, y := real(l[k]), flip(imag(l[k]))
			parts := [4]float64{x * real(m[k]), y * imag(m[k]), x * imag(m[k]), y * real(m[k])}
			products[k] = complex(parts[0]-parts[1], parts[2]+parts[3])
		}
		if z, e := plane.Dot(l, m); !same(z, leftSum(products)) || e != api.OK {
			t.Errorf("%x %x: %x %d", a, b, z, e)
		}
		if !same(l[0], a) || !same(l[1], b) || !same(m[0], b) || !same(m[1], a) {
			t.Error("a list was changed")
		}
	})
}

// P3.6: polynomials: the first number is that of the power 0.
func TestHorner(t *testing.T) {
	for _, c := range []struct {
		l       []complex128
		z, want complex128
	}{
		{nil, 2, 0},
		{nil, complex(nan, inf), 0},
		{[]complex128{}, 2, 0},
		{[]complex128{3i}, complex(nan, inf), 3i},
		{[]complex128{complex(minus0, minus0)}, 5, complex(minus0, minus0)},
		{[]complex128{1, 2, 3}, 2, 17},
		{[]complex128{3, 2, 1}, 2, 11},
		{[]complex128{1, 1, 1, 1}, 1i, 0},
		{[]complex128{1 + 1i, 2}, 1i, 1 + 3i},
		{[]complex128{0, 1}, complex(inf, 0), complex(inf, nan)},
		// 1 is lost in 2^53 + 1; from the first on it would not be.
		{[]complex128{-(1 << 53), 1, 1 << 53}, 1, 0},
		{[]complex128{1, -(1 << 53), 1 << 53}, 1, 1},
	} {
		if got := plane.Horner(c.l, c.z); !same(got, c.want) {
			t.Errorf("%x at %x: %x, not %x", c.l, c.z, got, c.want)
		}
	}
}

// P3.6: of any parts each step is a product and a sum.
func TestHornerByItsFormula(t *testing.T) {
	pairs(func(a, b complex128) {
		l := []complex128{1, b, 2i, a}
		r := a
		for _, z := range []complex128{2i, b, 1} {
			parts := [4]float64{real(r) * real(b), imag(r) * imag(b), real(r) * imag(b), imag(r) * real(b)}
			re, im := parts[0]-parts[1], parts[2]+parts[3]
			r = complex(re+real(z), im+imag(z))
		}
		want(t, "Horner", plane.Horner(l, b), r)
		if !same(l[3], a) || !same(l[1], b) {
			t.Error("the list was changed")
		}
	})
}
