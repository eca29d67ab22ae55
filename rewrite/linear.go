package rewrite

import (
	"slices"

	"phasor/api"
	"phasor/circuit"
)

// Linear answers what a circuit of cx gates adds up (P18.9).
func Linear(c api.Circuit) ([]uint64, api.Errno) {
	if _, e := circuit.Check(c); e != api.OK {
		return nil, e
	}
	rows := make([]uint64, c.Qubits)
	for q := range rows {
		rows[q] = 1 << q
	}
	for i := range c.Ops {
		if !adds(&c.Ops[i], rows) {
			return nil, api.ErrRewrite
		}
	}
	return rows, api.OK
}

// adds does to sums what an operation does, and tells whether it is one of those that may stand there.
func adds(op *api.Op, rows []uint64) bool {
	if op.Kind == api.OpBarrier {
		return true
	}
	if !plain(op) {
		return false
	}
	switch q := op.Qubits; op.Gate {
	case api.GateI:
	case api.GateCX:
		rows[q[1]] ^= rows[q[0]]
	case api.GateSwap:
		rows[q[0]], rows[q[1]] = rows[q[1]], rows[q[0]]
	default:
		return false
	}
	return true
}

// Synth makes a circuit of cx gates (P18.9).
func Synth(rows []uint64) (api.Circuit, api.Errno) {
	n := len(rows)
	if n > api.MaxWires || slices.ContainsFunc(rows, func(row uint64) bool { return row>>n != 0 }) {
		return api.Circuit{}, api.ErrArg
	}
	s := solver{rows: slices.Clone(rows), pen: pen{like: api.Op{Kind: api.OpGate, If: always}}}
	for column := range n {
		if !s.clear(column) {
			return api.Circuit{}, api.ErrArg
		}
	}
	slices.Reverse(s.ops)
	return api.Circuit{Qubits: n, Ops: s.ops}, api.OK
}

// solver makes rows those of no gates, and notes by which.
type solver struct {
	pen
	rows []uint64
}

// clear leaves in a column the bit of its own row alone; it is false, if no row from there on has the bit.
func (s *solver) clear(column int) bool {
	if !s.has(column, column) {
		from := column + 1
		for from < len(s.rows) && !s.has(from, column) {
			from++
		}
		if from == len(s.rows) {
			return false
		}
		s.add(from, column)
	}
	for row := range s.rows {
		if row != column && s.has(row, column) {
			s.add(column, row)
		}
	}
	return true
}

func (s *solver) has(row, column int) bool { return s.rows[row]>>column&1 != 0 }

// add adds a row to another.
func (s *solver) add(from, to int) {
	s.rows[to] ^= s.rows[from]
	s.write(api.GateCX, from, to)
}
