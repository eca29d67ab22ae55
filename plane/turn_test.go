package plane_test

import (
	"math"
	"math/big"
	"math/rand"
	"testing"

	"phasor/api"
	"phasor/plane"
)

// flip turns the sign of a float by its bits.
func flip(x float64) float64 { return math.Float64frombits(math.Float64bits(x) ^ 1<<63) }

// P3.2: signs are turned of noughts and infinities, too, and a NaN stays one.
func TestNegAndConj(t *testing.T) {
	for _, a := range numbers() {
		want(t, "Neg", plane.Neg(a), complex(flip(real(a)), flip(imag(a))))
		want(t, "Conj", plane.Conj(a), complex(real(a), flip(imag(a))))
	}
	want(t, "Neg of 0", plane.Neg(0), complex(minus0, minus0))
	want(t, "Neg of -0", plane.Neg(complex(minus0, minus0)), 0)
	want(t, "Conj of 0", plane.Conj(0), complex(0, minus0))
	want(t, "Conj of an infinity", plane.Conj(complex(inf, inf)), complex(inf, -inf))
	want(t, "Conj of a NaN", plane.Conj(complex(1, nan)), complex(1, nan))
	want(t, "Conj", plane.Conj(1-2i), 1+2i)
}

// P3.2: turns by every k modulo 4, below 0 and as far off as there are.
func TestTurn(t *testing.T) {
	for _, a := range numbers() {
		turned := [4]complex128{a, complex(flip(imag(a)), real(a)), complex(flip(real(a)), flip(imag(a))), complex(imag(a), flip(real(a)))}
		for _, k := range []int{-9, -8, -7, -6, -5, -4, -3, -2, -1, 0, 1, 2, 3, 4, 5, 6, 7, 8, 9, 1 << 40, 1<<40 + 1, math.MaxInt, math.MaxInt - 1, math.MinInt, math.MinInt + 1, math.MinInt + 2} {
			// Go's % has the sign of k.
			if got := plane.Turn(a, k); !same(got, turned[(k%4+4)%4]) {
				t.Fatalf("%x by %d: %x", a, k, got)
			}
		}
	}
	for k, z := range map[int]complex128{0: 1 + 2i, 1: -2 + 1i, 2: -1 - 2i, 3: 2 - 1i, -1: 2 - 1i, -2: -1 - 2i, -3: -2 + 1i, math.MaxInt: 2 - 1i, math.MinInt: 1 + 2i} {
		want(t, "Turn", plane.Turn(1+2i, k), z)
	}
}

// P3.2: -0 comes 0, and nothing else turns.
func TestClean(t *testing.T) {
	for _, a := range numbers() {
		want(t, "Clean", plane.Clean(a), plus(a))
	}
	want(t, "Clean of -0", plane.Clean(complex(minus0, minus0)), 0)
	want(t, "Clean of one -0", plane.Clean(complex(-least, minus0)), complex(-least, 0))
	want(t, "Clean of infinities", plane.Clean(complex(-inf, inf)), complex(-inf, inf))
	want(t, "Clean of a NaN", plane.Clean(complex(minus0, nan)), complex(0, nan))
}

// P3.3: what is below 0 or above 2000 is refused, and beside the error the number is 0.
func TestHalfRefuses(t *testing.T) {
	for _, n := range []int{-1, -2, -2000, 2001, 2002, 4000, 1 << 40, math.MinInt, math.MaxInt} {
		for _, a := range []complex128{1 + 1i, complex(minus0, nan), complex(inf, -inf)} {
			if z, e := plane.Half(a, n); !same(z, 0) || e != api.ErrPlane {
				t.Errorf("%x, %d: %x %d", a, n, z, e)
			}
		}
	}
}

// P3.3: halves by hand: both parts, the ties at the least floats, what is too small, and what does not turn.
func TestHalf(t *testing.T) {
	for _, c := range []struct {
		a    complex128
		n    int
		want complex128
	}{
		{1 - 3i, 0, 1 - 3i},
		{1 - 3i, 1, 0.5 - 1.5i},
		{-1 + 3i, 2, -0.25 + 0.75i},
		{1 + 1i, 1074, complex(least, least)},
		{1 - 1i, 1075, complex(0, minus0)},
		{3 - 3i, 1075, complex(2*least, -2*least)},
		{complex(1+0x1p-52, -1-0x1p-52), 1075, complex(least, -least)},
		{complex(1.5, 1.25), 1074, complex(2*least, least)},
		// Halved by 1000 first, these would be rounded to a tie.
		{complex(0x1.7p-74, -0x1.7p-74), 1001, complex(least, -least)},
		{complex(0x1.7p-2, -0x1.7p-2), 1073, complex(least, -least)},
		{complex(0x1p-1, 0x1p1023), 2000, complex(0, 0x1p-977)},
		{complex(most, -most), 2000, complex(0x1.fffffffffffffp-977, -0x1.fffffffffffffp-977)},
		{complex(most, -most), 1024, complex(0x1.fffffffffffffp-1, -0x1.fffffffffffffp-1)},
		{complex(most, -most), 2000, complex(most*0x1p-1000*0x1p-1000, -most*0x1p-1000*0x1p-1000)},
		{complex(least, -least), 1, complex(0, minus0)},
		{complex(3*least, -3*least), 1, complex(2*least, -2*least)},
		{complex(5*least, -7*least), 1, complex(2*least, -4*least)},
		{complex(normal+least, normal-least), 1, complex(normal/2, normal/2)},
		{complex(0, minus0), 0, complex(0, minus0)},
		{complex(0, minus0), 2000, complex(0, minus0)},
		{complex(inf, -inf), 2000, complex(inf, -inf)},
		{complex(nan, 1), 1, complex(nan, 0.5)},
		{complex(-1, nan), 2000, complex(minus0, nan)},
	} {
		if z, e := plane.Half(c.a, c.n); !same(z, c.want) || e != api.OK {
			t.Errorf("%x, %d: %x %d, not %x", c.a, c.n, z, e, c.want)
		}
	}
}

// P3.3: each part is rounded once, as big numbers are; halved twice, some would be rounded twice.
func TestHalfAgainstBigNumbers(t *testing.T) {
	chance := rand.New(rand.NewSource(33))
	for n := 0; n <= 2000; n++ {
		two := new(big.Int).Lsh(big.NewInt(1), uint(n))
		for range 10 {
			// Where the parts come to be subnormal or too small, roundings are seen.
			around := math.Ldexp(1+chance.Float64(), max(-1074, min(1023, n-1022-chance.Intn(55))))
			z, e := plane.Half(complex(around, -around), n)
			exact := new(big.Rat).SetFloat64(around)
			x, _ := exact.Quo(exact, new(big.Rat).SetInt(two)).Float64()
			if !same(z, complex(x, flip(x))) || e != api.OK {
				t.Fatalf("%x, %d: %x %d, not %x", around, n, z, e, x)
			}
		}
		for _, a := range []complex128{1 + 1i, complex(most, least), complex(-3*least, 0.1)} {
			if z, e := plane.Half(a, n); !same(z, complex(math.Ldexp(real(a), -n), math.Ldexp(imag(a), -n))) || e != api.OK {
				t.Fatalf("%x, %d: %x %d", a, n, z, e)
			}
		}
	}
}
