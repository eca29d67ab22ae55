package pauli_test

import (
	"math/rand"
	"slices"
	"testing"

	"phasor/api"
	"phasor/pauli"
	"phasor/state"
)

// P13.3: what letters and phases do, by hand: places, turns, and no nought with a sign.
func TestActByHand(t *testing.T) {
	for _, c := range []struct {
		p         api.Pauli
		s, wanted []complex128
	}{
		{of(0, ""), []complex128{5}, []complex128{5}},
		{of(1, ""), []complex128{5}, []complex128{5i}},
		{of(3, ""), []complex128{complex(minus0, 2)}, []complex128{2}},
		{of(0, "I"), []complex128{1 + 2i, 3 + 4i}, []complex128{1 + 2i, 3 + 4i}},
		{of(0, "X"), []complex128{1 + 2i, 3 + 4i}, []complex128{3 + 4i, 1 + 2i}},
		{of(0, "Y"), []complex128{1 + 2i, 3 + 4i}, []complex128{4 - 3i, -2 + 1i}},
		{of(0, "Z"), []complex128{1 + 2i, 3 + 4i}, []complex128{1 + 2i, -3 - 4i}},
		{of(2, "Z"), []complex128{1 + 2i, 3 + 4i}, []complex128{-1 - 2i, 3 + 4i}},
		{of(1, "Z"), []complex128{1 + 2i, 3 + 4i}, []complex128{-2 + 1i, 4 - 3i}},
		{of(0, "XI"), []complex128{1, 2, 3, 4}, []complex128{2, 1, 4, 3}},
		{of(0, "IX"), []complex128{1, 2, 3, 4}, []complex128{3, 4, 1, 2}},
		{of(0, "ZI"), []complex128{1, 2, 3, 4}, []complex128{1, -2, 3, -4}},
		{of(0, "IZ"), []complex128{1, 2, 3, 4}, []complex128{1, 2, -3, -4}},
		{of(0, "XZ"), []complex128{1, 2, 3, 4}, []complex128{2, 1, -4, -3}},
		{of(0, "YY"), []complex128{1, 2, 3, 4}, []complex128{-4, 3, 2, -1}},
		{of(0, "I"), []complex128{complex(minus0, minus0), complex(minus0, 1)}, []complex128{0, 1i}},
		{of(2, "I"), []complex128{0, 1}, []complex128{0, -1}},
		{of(0, "X"), []complex128{complex(inf, minus0), complex(nan, tiny)}, []complex128{complex(nan, tiny), complex(inf, 0)}},
		{of(1, "Z"), []complex128{complex(inf, nan), complex(-inf, -tiny)}, []complex128{complex(nan, inf), complex(-tiny, inf)}},
	} {
		l, e := pauli.Act(c.p, c.s)
		wantRow(t, "Act", l, e, c.wanted...)
	}
}

// P13.3: each amplitude, of states of all sizes and floats of all kinds.
func TestAct(t *testing.T) {
	chance := rand.New(rand.NewSource(1311))
	for n := range 4 {
		for _, p := range all(n) {
			for _, s := range [][]complex128{odd(chance, 1<<n), tame(chance, 1<<n)} {
				l, e := pauli.Act(p, s)
				wantRow(t, "Act", l, e, slowAct(p, s)...)
			}
		}
	}
	for n := 4; n <= 12; n++ {
		for range 20 {
			p, s := anyString(chance, n), odd(chance, 1<<n)
			l, e := pauli.Act(p, s)
			wantRow(t, "Act", l, e, slowAct(p, s)...)
		}
	}
}

// P13.3: the columns of a string's matrix are what it makes of basis states.
func TestActIsTheMatrix(t *testing.T) {
	for n := range 4 {
		for _, p := range all(n) {
			m := api.Matrix{N: 1 << n, E: make([]complex128, 1<<(2*n))}
			for k := range m.N {
				basis := make([]complex128, m.N)
				basis[k] = 1
				for row, z := range act(t, p, basis) {
					m.E[m.N*row+k] = z
				}
			}
			if !equalMatrix(m, stringMatrix(p)) {
				t.Fatal(p, m)
			}
		}
	}
}

// P13.3: what is no state is told ahead of what is no string, and both ahead of a string of another length.
func TestActRefuses(t *testing.T) {
	noStates := [][]complex128{
		nil, {}, make([]complex128, 0, 1), {1, 0, 0}, make([]complex128, 3, 4), make([]complex128, 5, 8), make([]complex128, 12),
		make([]complex128, 4095, 4096), make([]complex128, 4097), make([]complex128, 6144), make([]complex128, 8192), make([]complex128, 1<<16),
	}
	for _, s := range noStates {
		if _, e := state.Check(s); e != api.ErrState {
			t.Fatal(len(s), e)
		}
		for _, p := range append(wrongs(), of(0, ""), of(0, "X"), api.Pauli{N: 2}, api.Pauli{N: 13}, api.Pauli{N: 16}) {
			l, e := pauli.Act(p, s)
			wantNoRow(t, "no state", l, e, api.ErrState)
		}
	}
	for n := range 13 {
		s := make([]complex128, 1<<n)
		for _, p := range wrongs() {
			l, e := pauli.Act(p, s)
			wantNoRow(t, "no string", l, e, api.ErrPauli)
		}
		for other := range 65 {
			if l, e := pauli.Act(api.Pauli{N: other}, s); other != n {
				wantNoRow(t, "another length", l, e, api.ErrPauli)
			} else if e != api.OK || len(l) != len(s) {
				t.Error(n, len(l), e)
			}
		}
	}
}

// P13.3: every length that layer 9 takes to be a state's is one, and no other.
func TestActTakesStates(t *testing.T) {
	room := make([]complex128, 5000)
	for size := range room {
		n, wanted := state.Check(room[:size])
		if l, e := pauli.Act(api.Pauli{N: n}, room[:size]); e != wanted || wanted == api.OK && len(l) != size {
			t.Errorf("%d amplitudes: %d, error %d", size, len(l), e)
		}
	}
}

// R3: a state that a string gives is new memory, even where nothing turns.
func TestActedIsNew(t *testing.T) {
	s := []complex128{1, 2i, 3, 4}
	kept := slices.Clone(s)
	for _, p := range []api.Pauli{of(0, "II"), of(0, "XI"), of(3, "YZ")} {
		first := act(t, p, s)
		wanted := slices.Clone(first)
		for k := range first {
			first[k] = 99
		}
		wantRow(t, "once more", act(t, p, s), api.OK, wanted...)
		wantRow(t, "what was handed in", s, api.OK, kept...)
	}
}
