package equal

import (
	"slices"

	"phasor/api"
	"phasor/pauli"
	"phasor/run"
)

// images answers what becomes of X and of Z at each qubit.
func images(c api.Circuit) []api.Pauli {
	var l []api.Pauli
	for q := range c.Qubits {
		bit := uint64(1) << q
		l = append(l, carried(api.Pauli{N: c.Qubits, X: bit}, c.Ops), carried(api.Pauli{N: c.Qubits, Z: bit}, c.Ops))
	}
	return l
}

// carried answers a string behind gates; barriers do nothing with it.
func carried(p api.Pauli, ops []api.Op) api.Pauli {
	for _, op := range ops {
		if op.Kind == api.OpGate {
			p, _ = pauli.Through(p, op.Gate, op.Qubits)
		}
	}
	return p
}

// diagonal tells whether a matrix has nothing but noughts outside its diagonal.
func diagonal(m api.Matrix) bool {
	for row := range m.N {
		for column, z := range m.E[m.N*row : m.N*(row+1)] {
			if column != row && z != 0 {
				return false
			}
		}
	}
	return true
}

// tallies answers circuits' tallies, one behind the other. Whether all of them have as many bits is asked ahead of the first tally, as one can take long.
func tallies(circuits ...api.Circuit) ([][]api.Count, api.Errno) {
	if e := broken(circuits...); e != api.OK {
		return nil, e
	}
	if slices.ContainsFunc(circuits, func(c api.Circuit) bool { return c.Bits != circuits[0].Bits }) {
		return nil, api.ErrEqual
	}
	var l [][]api.Count
	for _, c := range circuits {
		counts, e := run.Tally(c)
		if e != api.OK {
			return nil, api.ErrEqual
		}
		l = append(l, counts)
	}
	return l, api.OK
}

// sameCount tells whether two rows of bits are one, and come by equal weights.
func sameCount(a, b api.Count) bool {
	return slices.Equal(a.Bits, b.Bits) && a.Weight == b.Weight
}
