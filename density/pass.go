package density

import (
	"phasor/api"
	"phasor/apply"
	"phasor/gate"
	"phasor/matrix"
	"phasor/plane"
)

// Gate applies a gate (P23.3). What is done with the conjugates of the rows is done with the columns of the adjoint.
func Gate(m api.Matrix, kind api.GateKind, qubits []int) (api.Matrix, api.Errno) {
	n, e := Check(m)
	if e != api.OK || gate.Check(kind, qubits, n) != api.OK {
		return api.Matrix{}, api.ErrDensity
	}
	rows, _ := matrix.Adjoint(byColumns(m, kind, qubits))
	both := byColumns(rows, kind, qubits)
	return gather(m.N, func(row, column int) complex128 {
		return plane.Clean(plane.Conj(at(both, column, row)))
	}), api.OK
}

// byColumns applies a gate to each column.
func byColumns(m api.Matrix, kind api.GateKind, qubits []int) api.Matrix {
	columns := make([][]complex128, m.N)
	for k := range columns {
		columns[k], _ = apply.Gate(columnOf(m, k), kind, qubits)
	}
	return gather(m.N, func(row, column int) complex128 { return columns[column][row] })
}

// Kraus passes a matrix through a channel (P23.4).
func Kraus(m api.Matrix, l []api.Matrix) (api.Matrix, api.Errno) {
	if _, e := Check(m); e != api.OK {
		return api.Matrix{}, e
	}
	parts := make([]api.Matrix, 0, len(l))
	for _, k := range l {
		left, e := matrix.Mul(k, m)
		if e != api.OK {
			return api.Matrix{}, api.ErrDensity
		}
		back, _ := matrix.Adjoint(k)
		part, _ := matrix.Mul(left, back)
		parts = append(parts, part)
	}
	return Mix(parts)
}
