package apply

import (
	"iter"
	"slices"

	"phasor/api"
	"phasor/circuit"
	"phasor/gate"
	"phasor/state"
)

const (
	always     = -1 // If of what has no condition
	mostQubits = 6  // of how many qubits a matrix has MaxSide rows
)

// Ops applies gates one behind the other (P10.5).
func Ops(s []complex128, ops []api.Op) ([]complex128, int, api.Errno) {
	n, e := state.Check(s)
	if e != api.OK {
		return nil, 0, e
	}
	now := slices.Clone(s)
	for place, op := range ops {
		if !done(now, n, op) {
			return nil, place, api.ErrApply
		}
	}
	return now, len(ops), api.OK
}

// Walk goes through the states behind each operation (P10.8). Each ranging begins with a state of its own, and gives copies of it out, so that whoever ranges may change them.
func Walk(s []complex128, ops []api.Op) iter.Seq2[int, []complex128] {
	n, e := state.Check(s)
	if e != api.OK {
		return func(func(int, []complex128) bool) {}
	}
	begin, todo := slices.Clone(s), circuit.Copy(api.Circuit{Ops: ops}).Ops
	return func(yield func(int, []complex128) bool) {
		now := slices.Clone(begin)
		for place, op := range todo {
			if !done(now, n, op) || !yield(place, slices.Clone(now)) {
				return
			}
		}
	}
}

// done does an operation with a state of n qubits, in its own memory, and tells whether it may be done; else nothing has changed.
func done(s []complex128, n int, op api.Op) bool {
	if op.Kind == api.OpBarrier {
		return true
	}
	if op.Kind != api.OpGate || op.If != always || gate.Check(op.Gate, op.Qubits, n) != api.OK {
		return false
	}
	over(s, op.Qubits, deedOf(op.Gate)).all()
	return true
}

// Unitary answers a circuit's matrix (P10.6).
func Unitary(c api.Circuit) (api.Matrix, api.Errno) {
	if _, e := circuit.Check(c); e != api.OK {
		return api.Matrix{}, e
	}
	if !circuit.Unitary(c) {
		return api.Matrix{}, api.ErrApply
	}
	if c.Qubits > mostQubits {
		return api.Matrix{}, api.ErrBig
	}
	n := 1 << c.Qubits
	m := api.Matrix{N: n, E: make([]complex128, n*n)}
	for column := range n {
		basis, _ := state.Basis(c.Qubits, column)
		l, _, _ := Ops(basis, c.Ops)
		for row, z := range l {
			m.E[n*row+column] = z
		}
	}
	return m, api.OK
}
