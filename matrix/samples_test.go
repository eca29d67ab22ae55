package matrix_test

import (
	"math"
	"math/rand"
	"testing"

	"phasor/api"
)

var (
	nan    = math.NaN()
	inf    = math.Inf(1)
	minus0 = math.Copysign(0, -1)
)

func of(n int, e ...complex128) api.Matrix { return api.Matrix{N: n, E: e} }

// floats holds those that formulas part at: signs of noughts, what is rounded, what overflows, what is no number.
func floats() []float64 {
	return []float64{
		0, minus0, 1, -1, 0.5, -3, 0.1, 1 + 0x1p-30, 1 - 0x1p-30, 1 << 53, -1e16, 1e200, -1e-200,
		math.SmallestNonzeroFloat64, math.MaxFloat64, inf, -inf, nan,
	}
}

// odd is a matrix of floats as they come, noughts with a sign, infinities and NaN among them; tame is one without the last two.
func odd(chance *rand.Rand, n int) api.Matrix {
	l := floats()
	return drawn(n, func() float64 { return l[chance.Intn(len(l))] })
}

func tame(chance *rand.Rand, n int) api.Matrix {
	return drawn(n, func() float64 {
		if chance.Intn(4) == 0 {
			return math.Copysign(0, chance.Float64()-0.5)
		}
		return chance.NormFloat64()
	})
}

// parts is a matrix whose entries' parts are multiples of 1/unit from -1 to 1.
func parts(chance *rand.Rand, n, unit int) api.Matrix {
	return drawn(n, func() float64 { return float64(chance.Intn(2*unit+1)-unit) / float64(unit) })
}

func drawn(n int, draw func() float64) api.Matrix {
	m := api.Matrix{N: n}
	for range n * n {
		m.E = append(m.E, complex(draw(), draw()))
	}
	return m
}

// wrongs holds matrices that are not right. The square of 1 << 32 and that of the least number are taken round to 0.
func wrongs() []api.Matrix {
	room := make([]complex128, 9, 16)
	return []api.Matrix{
		{},
		{E: []complex128{1}},
		{N: -1, E: []complex128{1}},
		{N: -2, E: []complex128{1, 0, 0, 1}},
		{N: 1},
		{N: 1, E: []complex128{1, 0}},
		{N: 2, E: []complex128{1, 0, 0}},
		{N: 2, E: []complex128{1, 0, 0, 1, 0}},
		{N: 3, E: make([]complex128, 8)},
		{N: 4, E: room},
		{N: 64, E: make([]complex128, 64*64-1)},
		{N: 65, E: make([]complex128, 65*65)},
		{N: 1 << 32},
		{N: math.MaxInt, E: []complex128{1}},
		{N: math.MinInt},
	}
}

// sameFloat tells whether floats have the same bits, two NaNs counting as the same.
func sameFloat(x, y float64) bool {
	return math.Float64bits(x) == math.Float64bits(y) || x != x && y != y
}

func sameNumber(a, b complex128) bool {
	return sameFloat(real(a), real(b)) && sameFloat(imag(a), imag(b))
}

// unsigned takes the signs of noughts away.
func unsigned(a complex128) complex128 { return complex(real(a)+0, imag(a)+0) }

func wantNumber(t *testing.T, what string, got, wanted complex128) {
	t.Helper()
	if !sameNumber(got, wanted) {
		t.Errorf("%s: %v, not %v", what, got, wanted)
	}
}

// wantMatrix compares to the bit, and takes an error to be wrong.
func wantMatrix(t *testing.T, what string, got api.Matrix, e api.Errno, wanted api.Matrix) {
	t.Helper()
	if e != api.OK || got.N != wanted.N || len(got.E) != len(wanted.E) {
		t.Errorf("%s: %d rows, %d entries, error %d, not %d rows", what, got.N, len(got.E), e, wanted.N)
		return
	}
	for i := range got.E {
		if !sameNumber(got.E[i], wanted.E[i]) {
			t.Errorf("%s: row %d, column %d: %v, not %v", what, i/got.N, i%got.N, got.E[i], wanted.E[i])
			return
		}
	}
}

// wantEqual compares but for the signs of noughts.
func wantEqual(t *testing.T, what string, got, wanted api.Matrix) {
	t.Helper()
	clean := func(m api.Matrix) api.Matrix {
		c := api.Matrix{N: m.N}
		for _, z := range m.E {
			c.E = append(c.E, unsigned(z))
		}
		return c
	}
	wantMatrix(t, what, clean(got), api.OK, clean(wanted))
}

// wantNone takes an answer beside an error to be of nothing.
func wantNone(t *testing.T, what string, got api.Matrix, e, wanted api.Errno) {
	t.Helper()
	if e != wanted || got.N != 0 || len(got.E) != 0 {
		t.Errorf("%s: %d rows, %d entries, error %d, not %d", what, got.N, len(got.E), e, wanted)
	}
}

// entry is what stands in a row and a column.
func entry(m api.Matrix, row, column int) complex128 { return m.E[m.N*row+column] }

// times is layer 3's product, written out: the language's own might leave a rounding out.
func times(a, b complex128) complex128 {
	p := [4]float64{real(a) * real(b), imag(a) * imag(b), real(a) * imag(b), imag(a) * real(b)}
	return complex(p[0]-p[1], p[2]+p[3])
}

// total adds from the first on.
func total(l []complex128) complex128 {
	re, im := real(l[0]), imag(l[0])
	for _, z := range l[1:] {
		re += real(z)
		im += imag(z)
	}
	return complex(re, im)
}

// product is what Mul promises, its terms gathered row by row.
func product(a, b api.Matrix) api.Matrix {
	terms := make([][]complex128, a.N*a.N)
	for i := range a.N {
		for k := range a.N {
			for j := range a.N {
				terms[a.N*i+j] = append(terms[a.N*i+j], times(entry(a, i, k), entry(b, k, j)))
			}
		}
	}
	p := api.Matrix{N: a.N}
	for _, l := range terms {
		p.E = append(p.E, total(l))
	}
	return p
}

// unit is the identity, its one written otherwise if need be.
func unit(n int, one complex128) api.Matrix {
	m := api.Matrix{N: n, E: make([]complex128, n*n)}
	for k := range n {
		m.E[n*k+k] = one
	}
	return m
}
