package noise

import (
	"iter"
	"slices"

	"phasor/api"
	"phasor/circuit"
	"phasor/pauli"
)

// Carry carries errors through a Clifford circuit (P24.4).
func Carry(c api.Circuit, slips []api.Slip) (api.Frame, api.Errno) {
	if e := stuck(c, slips); e != api.OK {
		return api.Frame{}, e
	}
	return courseOf(c).carry(slips...), api.OK
}

// Faults goes through all single errors and what they come to (P24.8). The circuit is copied when it is handed in, so that it may be changed ahead of the ranging.
func Faults(c api.Circuit) iter.Seq2[api.Slip, api.Frame] {
	if stuck(c, nil) != api.OK {
		return func(func(api.Slip, api.Frame) bool) {}
	}
	own := circuit.Copy(c)
	w := courseOf(own)
	return func(yield func(api.Slip, api.Frame) bool) {
		for slip := range singles(own) {
			if !yield(slip, w.carry(slip)) {
				return
			}
		}
	}
}

// Blind answers the errors that turn no outcome, but the state (P24.9).
func Blind(c api.Circuit) ([]api.Slip, api.Errno) {
	if e := stuck(c, nil); e != api.OK {
		return nil, e
	}
	var l []api.Slip
	for slip, f := range Faults(c) {
		if !slices.Contains(f.Log, true) && pauli.Weight(f.P) > 0 {
			l = append(l, slip)
		}
	}
	return l, api.OK
}

// stuck tells why errors can't be carried through a circuit.
func stuck(c api.Circuit, slips []api.Slip) api.Errno {
	if e := Check(c, slips); e != api.OK {
		return e
	}
	if !circuit.Clifford(c) || slices.ContainsFunc(c.Ops, asksAmiss) {
		return api.ErrFrame
	}
	return api.OK
}

// asksAmiss tells whether an operation has a condition, but does no letter: a frame can't tell what is done then, if the bit is turned.
func asksAmiss(op api.Op) bool {
	_, ok := letterOf(op.Gate)
	return op.If != always && !ok
}

// singles goes through the errors of one letter, behind each gate and reset, at each of its qubits.
func singles(c api.Circuit) iter.Seq[api.Slip] {
	return func(yield func(api.Slip) bool) {
		for i, op := range c.Ops {
			if op.Kind != api.OpGate && op.Kind != api.OpReset {
				continue
			}
			for _, qubit := range op.Qubits {
				for l := letterX; l <= letterZ; l++ {
					if !yield(api.Slip{After: i + 1, P: alone(l, qubit, c.Qubits)}) {
						return
					}
				}
			}
		}
	}
}
