package stab

import (
	"phasor/api"
	"phasor/odds"
	"phasor/tableau"
)

const (
	always = -1  // If of what has no condition
	noBit  = -1  // the Bit of an outcome that no bit was set to
	half   = 0.5 // the weight of either value, where both may come
)

// deed answers what is done for a kind of operation (P15.2); that tells whether it used the number. The operations are a checked Clifford circuit's, and what is projected onto has a weight, so that layer 14 refuses nothing.
func (m *Machine) deed(k api.OpKind) func(op api.Op, u float64) (bool, api.Errno) {
	switch k {
	case api.OpGate:
		return m.gate
	case api.OpMeasure:
		return m.measure
	case api.OpReset:
		return m.reset
	}
	return m.pass
}

func (m *Machine) gate(op api.Op, _ float64) (bool, api.Errno) {
	if op.If == always || m.bits[op.If] == op.When {
		m.tableau, _ = tableau.Gate(m.tableau, op.Gate, op.Qubits)
	}
	return false, api.OK
}

func (m *Machine) measure(op api.Op, u float64) (bool, api.Errno) {
	o, e := m.decide(op, u)
	if e != api.OK {
		return false, e
	}
	m.tableau, _ = tableau.Project(m.tableau, o.Qubit, o.Value)
	m.bits[op.Bit] = o.Value
	o.Bit = op.Bit
	m.log = append(m.log, o)
	return true, api.OK
}

func (m *Machine) reset(op api.Op, u float64) (bool, api.Errno) {
	o, e := m.decide(op, u)
	if e != api.OK {
		return false, e
	}
	m.tableau, _ = tableau.Settle(m.tableau, o.Qubit, o.Value)
	o.Bit = noBit
	m.log = append(m.log, o)
	return true, api.OK
}

func (m *Machine) pass(api.Op, float64) (bool, api.Errno) { return false, api.OK }

// decide answers what a measurement or a reset comes to, but for its bit; nothing is done yet.
func (m *Machine) decide(op api.Op, u float64) (api.Outcome, api.Errno) {
	qubit := op.Qubits[0]
	zero, one := weights(m.tableau, qubit)
	value, e := odds.Choose(zero, one, u)
	if e != api.OK {
		return api.Outcome{}, api.ErrStab
	}
	return api.Outcome{Op: m.at, Qubit: qubit, Value: value, Zero: zero, One: one}, api.OK
}

// weights answers those of 0 and 1 of a qubit.
func weights(t api.Tableau, qubit int) (float64, float64) {
	value, _ := tableau.Odds(t, qubit)
	switch value {
	case 0:
		return 1, 0
	case 1:
		return 0, 1
	}
	return half, half
}
