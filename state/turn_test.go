package state_test

import (
	"math"
	"math/rand"
	"testing"

	"phasor/state"
)

// P9.4: each amplitude is turned as layer 3 turns it, to the bit.
func TestTurnConjClean(t *testing.T) {
	chance := rand.New(rand.NewSource(906))
	for _, s := range rows(chance) {
		conj, clean := make([]complex128, len(s)), make([]complex128, len(s))
		for i, z := range s {
			conj[i] = complex(real(z), math.Copysign(imag(z), -1))
			if math.Signbit(imag(z)) {
				conj[i] = complex(real(z), math.Copysign(imag(z), 1))
			}
			clean[i] = complex(real(z)+0, imag(z)+0)
		}
		x, e := state.Conj(s)
		want(t, "Conj", x, e, conj...)
		x, e = state.Clean(s)
		want(t, "Clean", x, e, clean...)
		for _, k := range []int{0, 1, 2, 3, 4, 5, -1, -2, -3, -4, 1001, least, least + 1, great} {
			turns := make([]complex128, len(s))
			for i, z := range s {
				turns[i] = turned(z, k)
			}
			x, e = state.Turn(s, k)
			want(t, "Turn", x, e, turns...)
		}
	}
	s, e := state.Turn([]complex128{1, 1i}, 1)
	want(t, "Turn by hand", s, e, complex(minus0, 1), complex(-1, 0))
	s, e = state.Conj([]complex128{1i, 0})
	want(t, "Conj by hand", s, e, complex(0, -1), complex(0, minus0))
	s, e = state.Clean([]complex128{complex(minus0, minus0), complex(nan, minus0), complex(-inf, -1), 0})
	want(t, "Clean by hand", s, e, 0, complex(nan, 0), complex(-inf, -1), 0)
}
