package layers

import (
	"iter"

	"phasor/api"
	"phasor/circuit"
)

// mattering tells of each wire whether it matters.
type mattering [wireCount]bool

// asked answers the wires that matter at first, if these qubits of a circuit may be asked of.
func asked(c api.Circuit, qubits []int) (mattering, api.Errno) {
	if _, e := circuit.Check(c); e != api.OK {
		return mattering{}, e
	}
	var matters mattering
	for _, q := range qubits {
		if q < 0 || q >= c.Qubits || matters[q] {
			return mattering{}, api.ErrLayers
		}
		matters[q] = true
	}
	return matters, api.OK
}

// reached answers the numbers of the operations that have a wire that matters, in the order in which they are gone through: what an operation has matters to all behind it.
func reached(ops iter.Seq2[int, api.Op], matters mattering) []int {
	var l []int
	for at, op := range ops {
		own := wires(&op)
		if op.Kind == api.OpBarrier || !matters.some(own) {
			continue
		}
		l = append(l, at)
		for _, wire := range own {
			matters[wire] = true
		}
	}
	return l
}

// some tells whether one of these wires matters.
func (m *mattering) some(own []int) bool {
	for _, wire := range own {
		if m[wire] {
			return true
		}
	}
	return false
}
