package stab

import (
	"math"
	"slices"

	"phasor/api"
	"phasor/circuit"
)

// Next tells the operation that comes next (P15.2).
func (m *Machine) Next() (api.Op, bool) {
	if !m.made() || m.ended() {
		return api.Op{}, false
	}
	op := m.circuit.Ops[m.at]
	op.Qubits = slices.Clone(op.Qubits)
	return op, true
}

// Step does it (P15.2).
func (m *Machine) Step(u float64) (bool, api.Errno) {
	if !m.made() {
		return false, api.ErrNil
	}
	if m.ended() {
		return false, api.ErrStab
	}
	op := m.circuit.Ops[m.at]
	used, e := m.deed(op.Kind)(op, u)
	if e == api.OK {
		m.at++
	}
	return used, e
}

// Run goes on to the end (P15.3).
func (m *Machine) Run(us []float64) (int, api.Errno) {
	if !m.made() {
		return 0, api.ErrNil
	}
	used := 0
	for !m.ended() {
		// Behind the last number stands one that no measurement takes, and that nothing else looks at.
		u := math.NaN()
		if used < len(us) {
			u = us[used]
		}
		asked, e := m.Step(u)
		if e != api.OK {
			return used, e
		}
		if asked {
			used++
		}
	}
	return used, api.OK
}

// Tableau answers the tableau (P15.4).
func (m *Machine) Tableau() api.Tableau {
	if !m.made() {
		return api.Tableau{}
	}
	t := m.tableau
	return api.Tableau{N: t.N, Stab: slices.Clone(t.Stab), Destab: slices.Clone(t.Destab)}
}

// Bits answers the classical bits (P15.4).
func (m *Machine) Bits() []int {
	if !m.made() {
		return nil
	}
	return slices.Clone(m.bits[:m.circuit.Bits])
}

// At tells how many operations have been done (P15.4).
func (m *Machine) At() int {
	if !m.made() {
		return 0
	}
	return m.at
}

// Log answers the outcomes (P15.4).
func (m *Machine) Log() []api.Outcome {
	if !m.made() {
		return nil
	}
	return slices.Clone(m.log)
}

// Open tells how many outcomes were open (P15.4).
func (m *Machine) Open() int {
	if !m.made() {
		return 0
	}
	n := 0
	for _, o := range m.log {
		if o.Zero == half && o.One == half {
			n++
		}
	}
	return n
}

// Copy answers a machine of its own that stands there (P15.4).
func (m *Machine) Copy() *Machine {
	if !m.made() {
		return nil
	}
	k := *m
	k.circuit, k.tableau, k.log = circuit.Copy(m.circuit), m.Tableau(), m.Log()
	return &k
}

// made tells whether a call of this package made the machine.
func (m *Machine) made() bool { return m != nil && m.given }

func (m *Machine) ended() bool { return m.at == len(m.circuit.Ops) }
