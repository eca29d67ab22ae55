package stab

import (
	"phasor/api"
	"phasor/pauli"
	"phasor/plane"
	"phasor/state"
	"phasor/tableau"
)

// State makes a state of a tableau (P15.5).
func State(t api.Tableau) ([]complex128, api.Errno) {
	if e := tableau.Check(t); e != api.OK {
		return nil, e
	}
	if t.N > api.MaxQubits {
		return nil, api.ErrStab
	}
	s, _ := state.Basis(t.N, leastPlace(t)) // refuses no place of so many qubits
	for _, p := range t.Stab {
		s = kept(p, s)
	}
	return s, api.OK
}

// leastPlace answers the least place at which the state of a tableau is not nought. From a place's basis state comes something just if that is so; to try them one behind the other would take as many steps as there are places. The highest qubit counts most, so it is put to 0 first, where it may be.
func leastPlace(t api.Tableau) int {
	place := 0
	for i := range t.N {
		qubit := t.N - 1 - i
		value, _ := tableau.Odds(t, qubit)
		if value == 1 {
			place |= 1 << qubit
		}
		if value == 2 {
			t, _ = tableau.Project(t, qubit, 0)
		}
	}
	return place
}

// kept answers what of a state a string leaves as it is: half of the state and of what the string makes of it.
func kept(p api.Pauli, s []complex128) []complex128 {
	acted, _ := pauli.Act(p, s)
	l := make([]complex128, len(acted))
	for place, z := range acted {
		sum := plane.Add(s[place], z)
		l[place] = plane.Clean(complex(half*real(sum), half*imag(sum)))
	}
	return l
}
