package pauli

import (
	"phasor/api"
	"phasor/plane"
)

// Act applies a string to a state (P13.3). What a state is, layer 9 says; as this layer does not stand on that one, its rule stands here again.
func Act(p api.Pauli, s []complex128) ([]complex128, api.Errno) {
	n := power(len(s))
	if n < 0 || n > api.MaxQubits {
		return nil, api.ErrState
	}
	if Check(p) != api.OK || p.N != n {
		return nil, api.ErrPauli
	}
	l := make([]complex128, len(s))
	for place, z := range s {
		turn := p.Phase + ys(p) + 2*common(uint64(place), p.Z)
		l[place^int(p.X)] = plane.Clean(plane.Turn(z, turn))
	}
	return l, api.OK
}
