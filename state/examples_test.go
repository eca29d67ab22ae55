package state_test

import (
	"testing"

	"phasor/api"
	"phasor/state"
)

// The chapter's examples, as they stand there.

func TestExampleOne(t *testing.T) {
	s, e := state.Basis(2, 1)
	want(t, "Basis", s, e, 0, 1, 0, 0)
	for _, n := range []int{3, 0} {
		if q, e := state.Check(make([]complex128, n)); q != 0 || e != api.ErrState {
			t.Error("Check", n, q, e)
		}
	}
	if q, e := state.Check([]complex128{1}); q != 0 || e != api.OK {
		t.Error("Check of one", q, e)
	}
}

func TestExampleTwo(t *testing.T) {
	s, e := state.Kron([]complex128{0, 1}, []complex128{1, 0})
	want(t, "Kron", s, e, 0, 0, 1, 0)
	s, e = state.Order(s, []int{1, 0})
	want(t, "Order", s, e, 0, 1, 0, 0)
}

func TestExampleThree(t *testing.T) {
	s, e := state.Fourier([]complex128{1, 0, 0, 0}, 0, 1)
	want(t, "Fourier of 0", s, e, 0.5, 0.5, 0.5, 0.5)
	s, e = state.Fourier([]complex128{0, 1, 0, 0}, 0, 1)
	want(t, "Fourier of 1", s, e, 0.5, 0.5i, -0.5, complex(0, -0.5))
	s, e = state.Shift([]complex128{1, 0}, 3)
	want(t, "Shift", s, e, 0, 1)
}

func TestExampleFour(t *testing.T) {
	s := []complex128{0.5 + 0.5i, 0.5 - 0.5i}
	if h := state.Halves(s); h != 1 {
		t.Error("Halves", h)
	}
	if h := state.Halves([]complex128{complex(minus0, 0), 1}); h != -1 {
		t.Error("Halves of a nought with a sign", h)
	}
	if w, e := state.Weight(s); w != 1 || e != api.OK {
		t.Error("Weight", w, e)
	}
	if k := state.Phase([]complex128{1i, 0}, []complex128{1, 0}); k != 1 {
		t.Error("Phase", k)
	}
}
