package expect_test

import (
	"math/rand"
	"testing"

	"phasor/api"
)

// P22.1: by hand: qubit 0 is the lowest bit; the state stands on both sides, on the left conjugate; nothing is divided.
func TestValueByHand(t *testing.T) {
	for _, c := range []struct {
		s      []complex128
		p      string
		wanted complex128
	}{
		{[]complex128{1}, "+", 1}, {[]complex128{1}, "+i", 1i}, {[]complex128{1}, "-i", -1i}, {[]complex128{3 + 4i}, "+", 25},
		{[]complex128{1, 0}, "+Z", 1}, {[]complex128{0, 1}, "+Z", -1}, {[]complex128{0, 1i}, "+Z", -1}, {[]complex128{1, 0}, "+X", 0}, {[]complex128{0, 1}, "+Y", 0}, {[]complex128{0, 1}, "+iZ", -1i},
		{[]complex128{0, 0}, "+Y", 0}, {[]complex128{3, 1}, "+I", 10}, {[]complex128{3, 1}, "+Z", 8}, {[]complex128{3, 1}, "+X", 6}, {[]complex128{3, 1}, "+Y", 0},
		{[]complex128{0.5 + 0.5i, 0.5 - 0.5i}, "+Y", -1}, {[]complex128{0.5 + 0.5i, 0.5 - 0.5i}, "-Y", 1}, {[]complex128{0.5 - 0.5i, 0.5 + 0.5i}, "+Y", 1}, {[]complex128{0.5 + 0.5i, 0.5 + 0.5i}, "+X", 1},
		{[]complex128{0, 1, 0, 0}, "+ZI", -1}, {[]complex128{0, 1, 0, 0}, "+IZ", 1}, {[]complex128{0, 0, 1, 0}, "+ZI", 1}, {[]complex128{0, 0, 1, 0}, "+IZ", -1},
		{[]complex128{0.5 + 0.5i, 0.5 + 0.5i, 0, 0}, "+XI", 1}, {[]complex128{0.5 + 0.5i, 0.5 + 0.5i, 0, 0}, "+IX", 0}, {[]complex128{0.5 + 0.5i, 0, 0.5 + 0.5i, 0}, "+IX", 1},
	} {
		if z := valueOf(t, c.s, read(c.p)); z != c.wanted {
			t.Errorf("%s in %v: %v, not %v", c.p, c.s, z, c.wanted)
		}
	}
}

// P22.1: to the bit, of states of all sizes and floats of all kinds, and of strings with any phase.
func TestValue(t *testing.T) {
	chance := rand.New(rand.NewSource(2201))
	for n := range 3 {
		for _, p := range all(n) {
			for _, draw := range []func(*rand.Rand) float64{oddFloat, tameFloat} {
				s := amplitudes(chance, n, draw)
				wantValue(t, s, p, slowValue(s, p))
			}
		}
	}
	for n := 3; n <= 12; n++ {
		for i := range 30 {
			p, s := anyString(chance, n), amplitudes(chance, n, tameFloat)
			if i%5 == 0 {
				s = amplitudes(chance, n, oddFloat)
			}
			wantValue(t, s, p, slowValue(s, p))
		}
	}
}

// P22.1: amplitudes that are added from place 0 on.
func TestValueIsAddedInOrder(t *testing.T) {
	wantValue(t, []complex128{1, 1 << 27, 1 << 27, 0}, read("+II"), 1<<55)
	wantValue(t, []complex128{1 << 27, 1 << 27, 1, 0}, read("+ZI"), 1)
	wantValue(t, []complex128{1, 1 << 27, 1 << 27, 0}, read("+ZI"), 0)
}

// P22.1: layer 13's errors: what is no state is told ahead of what is no string, and of a string of another length.
func TestValueRefuses(t *testing.T) {
	for _, s := range noStates() {
		for _, p := range append(wrongStrings(), api.Pauli{}, api.Pauli{N: 1}, api.Pauli{N: 2}, api.Pauli{N: 13}) {
			value.refuses(t, "no state", s, []api.Term{{P: p}}, api.ErrState)
		}
	}
	for n := range 13 {
		s := make([]complex128, 1<<n)
		for _, p := range wrongStrings() {
			value.refuses(t, "no string", s, []api.Term{{P: p}}, api.ErrPauli)
		}
		for other := range 65 {
			if other != n {
				value.refuses(t, "another length", s, []api.Term{{P: api.Pauli{N: other}}}, api.ErrPauli)
			} else {
				wantValue(t, s, api.Pauli{N: n}, 0)
			}
		}
	}
}
