package run

import (
	"math"
	"slices"

	"phasor/api"
	"phasor/circuit"
	"phasor/odds"
)

// Next tells what comes next (P12.2).
func (m *Machine) Next() (api.Op, bool) {
	if !m.made() || m.ended() {
		return api.Op{}, false
	}
	op := m.circuit.Ops[m.at]
	op.Qubits = slices.Clone(op.Qubits)
	return op, true
}

// Step does one operation (P12.2).
func (m *Machine) Step(u float64) (bool, api.Errno) {
	if !m.made() {
		return false, api.ErrNil
	}
	if m.ended() {
		return false, api.ErrRun
	}
	op, d := m.next()
	var o api.Outcome
	if d.measures {
		o = m.weigh(op)
		value, e := odds.Choose(o.Zero, o.One, u)
		if e != api.OK {
			return false, api.ErrRun
		}
		o.Value = value
	}
	m.do(o)
	return d.measures, api.OK
}

// Run goes on to the end (P12.3).
func (m *Machine) Run(us []float64) (int, api.Errno) {
	if !m.made() {
		return 0, api.ErrNil
	}
	used := 0
	for !m.ended() {
		// Behind the last number stands one that no measurement takes, and that nothing else looks at.
		u := math.NaN()
		if used < len(us) {
			u = us[used]
		}
		asked, e := m.Step(u)
		if e != api.OK {
			return used, e
		}
		if asked {
			used++
		}
	}
	return used, api.OK
}

// State answers the state (P12.4).
func (m *Machine) State() []complex128 {
	if !m.made() {
		return nil
	}
	return slices.Clone(m.state)
}

// Bits answers the bits (P12.4).
func (m *Machine) Bits() []int {
	if !m.made() {
		return nil
	}
	return slices.Clone(m.bits[:m.circuit.Bits])
}

// At tells how many operations have been done (P12.4).
func (m *Machine) At() int {
	if !m.made() {
		return 0
	}
	return m.at
}

// Log answers what was measured (P12.4).
func (m *Machine) Log() []api.Outcome {
	if !m.made() {
		return nil
	}
	return slices.Clone(m.log)
}

// Copy answers a machine of its own that stands there (P12.4).
func (m *Machine) Copy() *Machine {
	if !m.made() {
		return nil
	}
	k := m.fork()
	k.circuit, k.state, k.log = circuit.Copy(m.circuit), m.State(), m.Log()
	return k
}

// made tells whether a call of this package made the machine: no state is without an amplitude.
func (m *Machine) made() bool { return m != nil && len(m.state) > 0 }

func (m *Machine) ended() bool { return m.at == len(m.circuit.Ops) }

// next answers the operation that comes next, and what is done for its kind.
func (m *Machine) next() (api.Op, deed) {
	op := m.circuit.Ops[m.at]
	return op, m.deeds()[op.Kind]
}

// do does the operation that comes next; if it measures, it comes to that outcome.
func (m *Machine) do(o api.Outcome) {
	op, d := m.next()
	d.do(op, o)
	m.at++
}

// fork answers a machine that stands there and shares what is not changed in its place. The log ends where its room does, so that neither writes what it appends into the other's.
func (m *Machine) fork() *Machine {
	k := *m
	k.log = slices.Clip(k.log)
	return &k
}
