package equal

import (
	"phasor/api"
	"phasor/circuit"
)

// broken looks at circuits one behind the other: ErrCircuit, if one of them may not be.
func broken(circuits ...api.Circuit) api.Errno {
	for _, c := range circuits {
		if _, e := circuit.Check(c); e != api.OK {
			return e
		}
	}
	return api.OK
}

// refused tells why circuits can't be compared: one may not be, or, if all may, one does not suit, or they part in how many qubits they have. A circuit that may not be comes ahead of all else, wherever it stands, so it is looked for first.
func refused(suits func(c api.Circuit) bool, circuits ...api.Circuit) api.Errno {
	if e := broken(circuits...); e != api.OK {
		return e
	}
	for _, c := range circuits {
		if c.Qubits != circuits[0].Qubits || !suits(c) {
			return api.ErrEqual
		}
	}
	return api.OK
}

// unitaryUpTo suits circuits of gates, and of at most so many qubits.
func unitaryUpTo(most int) func(c api.Circuit) bool {
	return func(c api.Circuit) bool { return c.Qubits <= most && circuit.Unitary(c) }
}

// carries suits circuits through which Pauli strings can be carried.
func carries(c api.Circuit) bool { return circuit.Unitary(c) && circuit.Clifford(c) }
