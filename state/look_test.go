package state_test

import (
	"math"
	"math/rand"
	"testing"

	"phasor/api"
	"phasor/state"
)

// rows holds states of some sizes, of floats of all kinds.
func rows(chance *rand.Rand) [][]complex128 {
	var l [][]complex128
	for n := range 13 {
		for range 1 + 24>>n {
			l = append(l, odd(chance, 1<<n), tame(chance, 1<<n), exact(chance, 1<<n, 2*n))
		}
	}
	return l
}

// P9.2: the sum of the squares to the bit, from place 0 on.
func TestWeight(t *testing.T) {
	chance := rand.New(rand.NewSource(901))
	for _, s := range rows(chance) {
		squares := make([]float64, len(s))
		for k, z := range s {
			p, q := real(z)*real(z), imag(z)*imag(z)
			squares[k] = p + q
		}
		wanted := squares[0]
		for _, x := range squares[1:] {
			wanted += x
		}
		if w, e := state.Weight(s); !sameFloat(w, wanted) || e != api.OK {
			t.Errorf("%d amplitudes: %v, %d, not %v", len(s), w, e, wanted)
		}
	}
	// The order tells: 1 is lost beside 2^54, but not beside another 1 that comes ahead.
	for _, c := range []struct {
		s      []complex128
		wanted float64
	}{
		{[]complex128{1 << 27, 1, 1, 1}, 1 << 54},
		{[]complex128{1, 1, 1, 1 << 27}, 1<<54 + 4},
		{[]complex128{1 << 27, 1 + 1i, 1 - 1i, 0}, 1 << 54},
		{[]complex128{1 << 27, 1 + 1i, 2, 0}, 1<<54 + 4},
		{[]complex128{complex(minus0, minus0)}, 0},
		{[]complex128{3 - 4i}, 25},
	} {
		if w, e := state.Weight(c.s); !sameFloat(w, c.wanted) || e != api.OK {
			t.Errorf("%v: %v, %d, not %v", c.s, w, e, c.wanted)
		}
	}
}

// P9.2: the inner product to the bit, its left side conjugate; of two sizes an error.
func TestDot(t *testing.T) {
	chance := rand.New(rand.NewSource(902))
	for n := range 13 {
		for range 1 + 48>>n {
			for _, draw := range []func(*rand.Rand, int) []complex128{odd, tame} {
				a, b := draw(chance, 1<<n), draw(chance, 1<<n)
				var terms []complex128
				for k := range a {
					terms = append(terms, times(complex(real(a[k]), -imag(a[k])), b[k]))
				}
				if z, e := state.Dot(a, b); !sameNumber(z, total(terms)) || e != api.OK {
					t.Errorf("%d qubits: %v, %d, not %v", n, z, e, total(terms))
				}
			}
			for m := range 13 {
				if z, e := state.Dot(make([]complex128, 1<<n), make([]complex128, 1<<m)); (e != api.OK) != (m != n) || !sameNumber(z, 0) || e != api.OK && e != api.ErrState {
					t.Errorf("%d and %d qubits: %v, %d", n, m, z, e)
				}
			}
		}
	}
	if z, e := state.Dot([]complex128{1i, 0}, []complex128{1, 1}); z != -1i || e != api.OK {
		t.Error(z, e)
	}
}

// P9.3: Same goes by bits, Equal by ==; each amplitude counts, and each of its parts.
func TestSameAndEqual(t *testing.T) {
	chance := rand.New(rand.NewSource(903))
	for n := range 13 {
		s := exact(chance, 1<<n, 20)
		for _, k := range []int{0, 1<<n - 1, chance.Intn(1 << n)} {
			for _, x := range floats() {
				for _, y := range floats() {
					for _, im := range []bool{false, true} {
						a, b := append([]complex128{}, s...), append([]complex128{}, s...)
						a[k], b[k] = complex(x, 1), complex(y, 1)
						if im {
							a[k], b[k] = complex(1, x), complex(1, y)
						}
						if state.Same(a, b) != sameFloat(x, y) || state.Equal(a, b) != (x == y) {
							t.Fatalf("%d qubits, place %d: %v and %v", n, k, x, y)
						}
					}
				}
				if n > 4 {
					break
				}
			}
		}
		for m := range 13 {
			if a, b := make([]complex128, 1<<n), make([]complex128, 1<<m); state.Same(a, b) != (n == m) || state.Equal(a, b) != (n == m) || (state.Phase(a, b) == 0) != (n == m) {
				t.Errorf("%d and %d qubits", n, m)
			}
		}
	}
}

// P9.3: the least turn, of noughts 0, of a NaN none.
func TestPhase(t *testing.T) {
	chance := rand.New(rand.NewSource(904))
	for n := range 13 {
		for k := range 4 {
			s := exact(chance, 1<<n, 20)
			at := chance.Intn(1 << n)
			s[at] = 0.25 + 0.5i
			a := make([]complex128, len(s))
			for i, z := range s {
				a[i] = turned(z, k)
			}
			if got := state.Phase(a, s); got != k {
				t.Errorf("%d qubits: %d, not %d", n, got, k)
			}
			if got := state.Phase(s, a); got != (4-k)%4 {
				t.Errorf("%d qubits, back: %d, not %d", n, got, (4-k)%4)
			}
			a[at] = complex(real(a[at]), imag(a[at])*2)
			if got := state.Phase(a, s); got != -1 {
				t.Errorf("%d qubits: %d of states that part at %d", n, got, at)
			}
		}
	}
	for _, c := range []struct {
		a, b   []complex128
		wanted int
	}{
		{[]complex128{0, 0}, []complex128{complex(minus0, 0), complex(0, minus0)}, 0},
		{[]complex128{complex(nan, 0)}, []complex128{complex(nan, 0)}, -1},
		{[]complex128{1, complex(0, nan)}, []complex128{1, complex(0, nan)}, -1},
		{[]complex128{complex(inf, 1)}, []complex128{complex(1, -inf)}, 1},
		{[]complex128{complex(inf, -inf)}, []complex128{complex(inf, inf)}, 3},
		{[]complex128{-1, 1i}, []complex128{1, -1i}, 2},
		{[]complex128{-1, 1i}, []complex128{1, 1i}, -1},
		{[]complex128{1, 0}, []complex128{0.5, 0}, -1},
		{[]complex128{1}, []complex128{1, 0}, -1},
	} {
		if k := state.Phase(c.a, c.b); k != c.wanted {
			t.Errorf("%v and %v: %d, not %d", c.a, c.b, k, c.wanted)
		}
	}
}

// P9.3: what Exact says of all numbers of halves, and so the least, by what DOC.md says of a part.
func TestExactAndHalves(t *testing.T) {
	for _, c := range []struct {
		x      float64
		wanted int
	}{
		{0, 0}, {minus0, -1}, {1, 0}, {-1, 0}, {0.5, 1}, {-0.5, 1}, {0.75, 2}, {-0.375, 3}, {0.1, 55}, {0x1p-24, 24},
		{math.Nextafter(1, 2), -1}, {math.Nextafter(-1, -2), -1}, {math.Nextafter(1, 0), 53}, {2, -1}, {-2, -1}, {1.5, -1},
		{0x1p-999, 999}, {0x1p-1000, 1000}, {-0x1p-1000, 1000}, {0x1.8p-999, 1000}, {0x1p-1001, -1}, {0x1.8p-1000, -1}, {0x1p-1022, -1},
		{math.SmallestNonzeroFloat64, -1}, {math.MaxFloat64, -1}, {inf, -1}, {-inf, -1}, {nan, -1},
	} {
		for _, s := range [][]complex128{
			{complex(c.x, 0)}, {complex(0, c.x)}, {complex(c.x, c.x)}, {1, complex(0, c.x)}, {complex(c.x, -1), 1i},
			append(make([]complex128, 4095), complex(0, c.x)),
		} {
			if h := state.Halves(s); h != c.wanted {
				t.Errorf("%v: %d, not %d", c.x, h, c.wanted)
			}
			for _, h := range []int{least, -1, 0, 1, 2, 3, 24, 52, 53, 54, 55, 998, 999, 1000, 1001, 1074, 2000, great} {
				if got := state.Exact(s, h); got != (c.wanted >= 0 && h >= c.wanted && h <= 1000) {
					t.Errorf("%v, %d halves: %v", c.x, h, got)
				}
			}
		}
	}
}

// P9.3: of a state the most that one of its parts needs; one part that is not exact spoils it.
func TestHalvesOfMany(t *testing.T) {
	chance := rand.New(rand.NewSource(905))
	for range 300 {
		n, h := chance.Intn(7), 1+chance.Intn(40)
		s := exact(chance, 1<<n, h-1)
		k := chance.Intn(len(s))
		if got := state.Halves(s); got > h-1 || got < 0 || !state.Exact(s, h-1) {
			t.Errorf("%d halves: %d", h-1, got)
		}
		s[k] = complex(real(s[k]), math.Ldexp(-1, -h))
		if got := state.Halves(s); got != h || state.Exact(s, h-1) || !state.Exact(s, h) {
			t.Errorf("%d halves: %d", h, got)
		}
		for _, x := range []float64{minus0, nan, inf, 1.25, -2, 0x1p-1001} {
			s[k] = complex(x, 0.5)
			if state.Halves(s) != -1 || state.Exact(s, 1000) {
				t.Errorf("%v at %d", x, k)
			}
		}
	}
}
