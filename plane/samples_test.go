package plane_test

import (
	"math"
	"math/rand"
	"testing"
)

const (
	least  = math.SmallestNonzeroFloat64
	normal = 0x1p-1022 // the least normal float
	most   = math.MaxFloat64
)

var (
	minus0 = math.Copysign(0, -1)
	inf    = math.Inf(1)
	nan    = math.NaN()
)

// floats are of all classes, with either sign.
func floats() []float64 {
	var l []float64
	for _, x := range []float64{0, least, 3 * least, normal - least, normal, 0x1p-600, 0.1, 0.5, 1 - 0x1p-53, 1, 1 + 0x1p-52, 3, 1<<53 - 1, 1e16, 0x1p600, most, inf} {
		l = append(l, x, math.Copysign(x, -1))
	}
	return append(l, nan, math.Float64frombits(0xfff0000000000001))
}

// numbers have the floats in all pairs as their parts.
func numbers() []complex128 {
	var l []complex128
	for _, re := range floats() {
		for _, im := range floats() {
			l = append(l, complex(re, im))
		}
	}
	return l
}

// pairs hands on every pair of a part of the numbers, and pairs of any bits: the same ones in each run.
func pairs(do func(a, b complex128)) {
	l := numbers()
	for i, a := range l {
		for j := i % 31; j < len(l); j += 31 {
			do(a, l[j])
		}
	}
	chance := rand.New(rand.NewSource(3))
	for range 2000 {
		do(anyNumber(chance), anyNumber(chance))
	}
}

func anyNumber(chance *rand.Rand) complex128 {
	return complex(math.Float64frombits(chance.Uint64()), math.Float64frombits(chance.Uint64()))
}

// exacts are n numbers that are multiples of 2^-20 with parts from -1 to 1, the ends among them.
func exacts(chance *rand.Rand, n int) []complex128 {
	part := func() float64 {
		switch chance.Intn(8) {
		case 0:
			return 1
		case 1:
			return -1
		case 2:
			return 0
		}
		return float64(chance.Intn(1<<21+1)-1<<20) / (1 << 20)
	}
	l := make([]complex128, n)
	for i := range l {
		l[i] = complex(part(), part())
	}
	return l
}

// sameFloat and same ask the library, not the package under test.
func sameFloat(a, b float64) bool {
	return math.Float64bits(a) == math.Float64bits(b) || a != a && b != b
}

func same(a, b complex128) bool {
	return sameFloat(real(a), real(b)) && sameFloat(imag(a), imag(b))
}

// plus is a number whose noughts have no sign.
func plus(a complex128) complex128 {
	parts := [2]float64{real(a), imag(a)}
	for i, x := range parts {
		if x == 0 {
			parts[i] = 0
		}
	}
	return complex(parts[0], parts[1])
}

func want(t *testing.T, what string, got, want complex128) {
	t.Helper()
	if !same(got, want) {
		t.Errorf("%s: %x, not %x", what, got, want)
	}
}

func wantFloat(t *testing.T, what string, got, want float64) {
	t.Helper()
	if !sameFloat(got, want) {
		t.Errorf("%s: %x, not %x", what, got, want)
	}
}
