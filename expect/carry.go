package expect

import (
	"slices"

	"phasor/api"
	"phasor/circuit"
	"phasor/gate"
	"phasor/pauli"
)

// Back carries a string back through a circuit (P22.5).
func Back(c api.Circuit, p api.Pauli) (api.Pauli, api.Errno) {
	if e := stuck(c, p); e != api.OK {
		return api.Pauli{}, e
	}
	for _, op := range slices.Backward(c.Ops) {
		if op.Kind == api.OpGate {
			p, _ = pauli.Through(p, gate.Inverse(op.Gate), op.Qubits)
		}
	}
	return p, api.OK
}

// Forth carries a string through a circuit (P22.5).
func Forth(c api.Circuit, p api.Pauli) (api.Pauli, api.Errno) {
	if e := stuck(c, p); e != api.OK {
		return api.Pauli{}, e
	}
	for _, op := range c.Ops {
		if op.Kind == api.OpGate {
			p, _ = pauli.Through(p, op.Gate, op.Qubits)
		}
	}
	return p, api.OK
}

// stuck tells why a string can't be carried through a circuit.
func stuck(c api.Circuit, p api.Pauli) api.Errno {
	if _, e := circuit.Check(c); e != api.OK {
		return e
	}
	if !circuit.Unitary(c) || !circuit.Clifford(c) {
		return api.ErrExpect
	}
	if pauli.Check(p) != api.OK || p.N != c.Qubits {
		return api.ErrPauli
	}
	return api.OK
}
