package state_test

import (
	"testing"

	"phasor/api"
	"phasor/state"
)

// P9.1: just the rows of 1, 2, 4 and so on to 4096 numbers are states, whichever numbers these are.
func TestCheck(t *testing.T) {
	qubits := map[int]int{}
	for n, size := 0, 1; n <= 12; n, size = n+1, 2*size {
		qubits[size] = n
	}
	for size := range 9000 {
		n, is := qubits[size]
		q, e := state.Check(make([]complex128, size))
		if is && (q != n || e != api.OK) || !is && (q != 0 || e != api.ErrState) {
			t.Errorf("%d amplitudes: %d, %d", size, q, e)
		}
	}
	if q, e := state.Check([]complex128{complex(nan, inf), complex(minus0, 1e300)}); q != 1 || e != api.OK {
		t.Error(q, e)
	}
	for _, s := range wrongs() {
		if q, e := state.Check(s); q != 0 || e != api.ErrState {
			t.Errorf("%d amplitudes: %d, %d", len(s), q, e)
		}
	}
}

// P9.1: one amplitude is 1, all others are noughts without a sign.
func TestBasis(t *testing.T) {
	for n := range 13 {
		size := 1 << n
		for k := 0; k < size; k += 1 + k/40 {
			s, e := state.Basis(n, k)
			wanted := make([]complex128, size)
			wanted[k] = 1
			want(t, "Basis", s, e, wanted...)
		}
		s, e := state.Basis(n, size-1)
		if len(s) != size || e != api.OK || s[size-1] != 1 {
			t.Errorf("the last of %d qubits: %d", n, e)
		}
		for _, k := range []int{-1, size, size + 1, least, great} {
			s, e := state.Basis(n, k)
			wantNone(t, "Basis, place", s, e)
		}
	}
	for _, n := range []int{-1, 13, 62, 63, 64, 65, least, great} {
		for _, k := range []int{0, 1, -1} {
			s, e := state.Basis(n, k)
			wantNone(t, "Basis, qubits", s, e)
		}
	}
}

// P9.2 and behind it: a row that is none is refused by all that take one, in each place, and nothing is answered beside.
func TestNoStates(t *testing.T) {
	one := []complex128{1, 0}
	for _, s := range wrongs() {
		if w, e := state.Weight(s); e != api.ErrState || !sameFloat(w, 0) {
			t.Errorf("Weight of %d: %v, %d", len(s), w, e)
		}
		for _, pair := range [][2][]complex128{{s, one}, {one, s}, {s, s}} {
			if z, e := state.Dot(pair[0], pair[1]); e != api.ErrState || !sameNumber(z, 0) {
				t.Errorf("Dot of %d: %v, %d", len(s), z, e)
			}
			k, e := state.Kron(pair[0], pair[1])
			wantNone(t, "Kron", k, e)
			if state.Same(pair[0], pair[1]) || state.Equal(pair[0], pair[1]) || state.Phase(pair[0], pair[1]) != -1 {
				t.Errorf("looks at %d amplitudes", len(s))
			}
		}
		if state.Exact(s, 0) || state.Exact(s, 1000) || state.Halves(s) != -1 {
			t.Errorf("%d amplitudes are exact", len(s))
		}
		x, e := state.Turn(s, 0)
		wantNone(t, "Turn", x, e)
		x, e = state.Conj(s)
		wantNone(t, "Conj", x, e)
		x, e = state.Clean(s)
		wantNone(t, "Clean", x, e)
		for _, to := range [][]int{nil, {0}, {0, 1}, {1, 0}, make([]int, 1000)} {
			x, e = state.Order(s, to)
			wantNone(t, "Order", x, e)
		}
		x, e = state.Fourier(s, 0, 1)
		wantNone(t, "Fourier", x, e)
		x, e = state.Back(s, 0, 1)
		wantNone(t, "Back", x, e)
		for _, by := range []int{0, 1, -1} {
			x, e = state.Shift(s, by)
			wantNone(t, "Shift", x, e)
		}
		for k := range state.Support(s) {
			t.Errorf("Support of %d amplitudes: %d", len(s), k)
		}
	}
}

// R3: answers are new memory, and what is handed in stays as it was.
func TestMemory(t *testing.T) {
	s := []complex128{1, complex(2, minus0), 3i, complex(nan, inf)}
	ahead := append([]complex128{}, s...)
	to := []int{0, 1}
	calls := map[string]func() ([]complex128, api.Errno){
		"Basis":   func() ([]complex128, api.Errno) { return state.Basis(2, 0) },
		"Turn":    func() ([]complex128, api.Errno) { return state.Turn(s, 0) },
		"Conj":    func() ([]complex128, api.Errno) { return state.Conj(s) },
		"Clean":   func() ([]complex128, api.Errno) { return state.Clean(s) },
		"Kron":    func() ([]complex128, api.Errno) { return state.Kron(s, []complex128{1}) },
		"Kron, 1": func() ([]complex128, api.Errno) { return state.Kron([]complex128{1}, s) },
		"Order":   func() ([]complex128, api.Errno) { return state.Order(s, to) },
		"Fourier": func() ([]complex128, api.Errno) { return state.Fourier(s, 1, 0) },
		"Back":    func() ([]complex128, api.Errno) { return state.Back(s, 0, 1) },
		"Shift":   func() ([]complex128, api.Errno) { return state.Shift(s, 0) },
	}
	for what, call := range calls {
		first, e := call()
		kept := append([]complex128{}, first...)
		for k := range first {
			first[k] = 99
		}
		second, _ := call()
		want(t, what, second, e, kept...)
		if !sameRow(s, ahead) || to[0] != 0 || to[1] != 1 {
			t.Errorf("%s changed what was handed in", what)
		}
	}
}
