package plane_test

import (
	"math"
	"math/rand"
	"slices"
	"testing"

	"phasor/api"
	"phasor/plane"
)

// P3.8: Back undoes Fourier, and Fourier's squares have n times the sum of the numbers' squares.
func TestFourierOfExactNumbers(t *testing.T) {
	chance := rand.New(rand.NewSource(38))
	for range 5000 {
		for _, n := range []int{1, 2, 4} {
			l := exacts(chance, n)
			f, e := plane.Fourier(l)
			b, err := plane.Back(f)
			if e != api.OK || err != api.OK || !slices.EqualFunc(l, b, plane.Equal) {
				t.Fatalf("%x: %x %x %d %d", l, f, b, e, err)
			}
			ahead, behind := 0.0, 0.0
			for k := range l {
				ahead += plane.Square(l[k])
				behind += plane.Square(f[k])
			}
			if behind != float64(n)*ahead {
				t.Fatalf("%x: %x, %x", l, behind, ahead)
			}
		}
	}
}

// P3.8: Div undoes Mul by powers of i times powers of two.
func TestDivOfExactNumbers(t *testing.T) {
	chance := rand.New(rand.NewSource(39))
	for _, a := range exacts(chance, 300) {
		for power := -20; power <= 20; power++ {
			for k := range 4 {
				b := plane.Turn(complex(math.Ldexp(1, power), 0), k)
				if got := plane.Div(plane.Mul(a, b), b); !plane.Equal(got, a) {
					t.Fatalf("%x times %x: %x", a, b, got)
				}
			}
		}
	}
}

// P3.8: a polynomial at 1 is the sum of its numbers.
func TestHornerOfExactNumbers(t *testing.T) {
	chance := rand.New(rand.NewSource(40))
	for n := range 1001 {
		l := exacts(chance, n)
		if got := plane.Horner(l, 1); !plane.Equal(got, plane.Sum(l)) {
			t.Fatalf("%d: %x, %x", n, got, plane.Sum(l))
		}
	}
}

// P3.9: of the pairs that the other tests take.
func TestFollows(t *testing.T) {
	pairs(func(a, b complex128) {
		for _, k := range []int{-3, 0, 1, 2, 3, math.MinInt, math.MaxInt} {
			follows(t, a, b, k)
		}
	})
}

// FuzzFollows is P3.9, of any two numbers.
func FuzzFollows(f *testing.F) {
	for k, x := range floats() {
		f.Add(x, -x, 0.0, minus0, k)
		f.Add(x, inf, nan, x, -k)
	}
	f.Fuzz(func(t *testing.T, p, q, r, s float64, k int) {
		follows(t, complex(p, q), complex(r, s), k)
	})
}

func follows(t *testing.T, a, b complex128, k int) {
	t.Helper()
	want(t, "Neg of Neg", plane.Neg(plane.Neg(a)), a)
	want(t, "Conj of Conj", plane.Conj(plane.Conj(a)), a)
	want(t, "Turn there and back", plane.Turn(plane.Turn(a, k), -k), a)
	want(t, "Mul the other way round", plane.Mul(a, b), plane.Mul(b, a))
	want(t, "Conj of Mul", plane.Clean(plane.Conj(plane.Mul(a, b))), plane.Clean(plane.Mul(plane.Conj(a), plane.Conj(b))))
	wantFloat(t, "Square of Turn", plane.Square(plane.Turn(a, k)), plane.Square(a))
	wantFloat(t, "Square of Conj", plane.Square(plane.Conj(a)), plane.Square(a))
	if plane.Equal(a, b) && !plane.Same(a, b) {
		want(t, "Equal and not Same", plane.Clean(a), plane.Clean(b))
	}
	if plane.Same(a, b) && !plane.Equal(a, b) && real(a) == real(a) && imag(a) == imag(a) {
		t.Errorf("%x %x: Same and not Equal", a, b)
	}
	if !plane.Same(a, a) || plane.Equal(a, a) != (real(a) == real(a) && imag(a) == imag(a)) {
		t.Errorf("%x and itself", a)
	}
}
