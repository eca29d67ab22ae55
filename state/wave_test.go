package state_test

import (
	"math"
	"math/rand"
	"testing"

	"phasor/api"
	"phasor/state"
)

// wave is number j of a group of four by its formula, halved and cleaned.
func wave(x [4]complex128, j, way int) complex128 {
	var terms []complex128
	for k, z := range x {
		terms = append(terms, turned(z, way*j*k))
	}
	z := total(terms)
	re, im := real(z)/2, imag(z)/2
	if re == 0 {
		re = math.Abs(re)
	}
	if im == 0 {
		im = math.Abs(im)
	}
	return complex(re, im)
}

// waves asks for each place by itself: which group it is of, and which of its four.
func waves(s []complex128, low, high, way int) []complex128 {
	l := make([]complex128, len(s))
	for place := range s {
		ground := place
		if place&(1<<low) != 0 {
			ground -= 1 << low
		}
		if place&(1<<high) != 0 {
			ground -= 1 << high
		}
		var x [4]complex128
		number := 0
		for j := range x {
			at := ground + j%2<<low + j/2<<high
			x[j] = s[at]
			if at == place {
				number = j
			}
		}
		l[place] = wave(x, number, way)
	}
	return l
}

// P9.6: both ways to the bit, of any floats, on any two qubits in either order.
func TestFourierAndBack(t *testing.T) {
	chance := rand.New(rand.NewSource(911))
	for n := 2; n <= 12; n++ {
		for low := range n {
			for high := range n {
				if low == high || n > 6 && chance.Intn(n) > 1 {
					continue
				}
				for _, s := range [][]complex128{odd(chance, 1<<n), tame(chance, 1<<n), exact(chance, 1<<n, 22)} {
					x, e := state.Fourier(s, low, high)
					want(t, "Fourier", x, e, waves(s, low, high, 1)...)
					x, e = state.Back(s, low, high)
					want(t, "Back", x, e, waves(s, low, high, -1)...)
				}
			}
		}
	}
}

// P9.6: by hand: which bit is the low one, which way turns go, that noughts have no sign, that halves are rounded behind the sum.
func TestWavesByHand(t *testing.T) {
	tiny := complex(5e-324, 0)
	for _, c := range []struct {
		what      string
		call      func([]complex128, int, int) ([]complex128, api.Errno)
		s         []complex128
		low, high int
		wanted    []complex128
	}{
		{"1", state.Fourier, []complex128{0, 1, 0, 0}, 0, 1, []complex128{0.5, 0.5i, -0.5, complex(0, -0.5)}},
		{"2, turned round", state.Fourier, []complex128{0, 0, 1, 0}, 1, 0, []complex128{0.5, -0.5, 0.5i, complex(0, -0.5)}},
		{"3", state.Fourier, []complex128{0, 0, 0, 1}, 0, 1, []complex128{0.5, complex(0, -0.5), -0.5, 0.5i}},
		{"1, back", state.Back, []complex128{0, 1, 0, 0}, 0, 1, []complex128{0.5, complex(0, -0.5), -0.5, 0.5i}},
		{"3, back", state.Back, []complex128{0, 0, 0, 1}, 0, 1, []complex128{0.5, 0.5i, -0.5, complex(0, -0.5)}},
		{"noughts", state.Fourier, []complex128{complex(minus0, minus0), complex(minus0, minus0), complex(minus0, minus0), complex(minus0, minus0)}, 0, 1, []complex128{0, 0, 0, 0}},
		{"one of the least", state.Fourier, []complex128{-tiny, 0, 0, 0}, 0, 1, []complex128{0, 0, 0, 0}},
		{"two of the least", state.Back, []complex128{tiny, 0, tiny, 0}, 0, 1, []complex128{tiny, 0, tiny, 0}},
		{"three of the least", state.Back, []complex128{3 * tiny, 0, 0, 0}, 0, 1, []complex128{2 * tiny, 2 * tiny, 2 * tiny, 2 * tiny}},
		{"too great a sum", state.Fourier, []complex128{math.MaxFloat64, 0, math.MaxFloat64, 0}, 0, 1, []complex128{complex(inf, 0), 0, complex(inf, 0), 0}},
		{"above", state.Fourier, []complex128{0, 0, 1, 0, 0, 0, 0, 0}, 1, 2, []complex128{0.5, 0, 0.5i, 0, -0.5, 0, complex(0, -0.5), 0}},
		{"beside", state.Fourier, []complex128{0, 0, 1, 0, 0, 0, 0, 0}, 0, 2, []complex128{0, 0, 0.5, 0.5, 0, 0, 0.5, 0.5}},
	} {
		x, e := c.call(c.s, c.low, c.high)
		want(t, c.what, x, e, c.wanted...)
	}
}

// P9.6: qubits that a state does not have, and one qubit twice.
func TestWavesRefuse(t *testing.T) {
	for n := range 13 {
		s := make([]complex128, 1<<n)
		s[0] = 1
		for low := range n {
			x, e := state.Fourier(s, low, low)
			wantNone(t, "Fourier, one twice", x, e)
			x, e = state.Back(s, low, low)
			wantNone(t, "Back, one twice", x, e)
		}
		for _, wrong := range []int{-1, n, n + 1, 64, least, great} {
			for q := -1; q <= n; q++ {
				x, e := state.Fourier(s, wrong, q)
				wantNone(t, "Fourier, low", x, e)
				x, e = state.Fourier(s, q, wrong)
				wantNone(t, "Fourier, high", x, e)
				x, e = state.Back(s, wrong, q)
				wantNone(t, "Back, low", x, e)
				x, e = state.Back(s, q, wrong)
				wantNone(t, "Back, high", x, e)
			}
		}
	}
}
