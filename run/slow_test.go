package run_test

import (
	"slices"
	"testing"

	"phasor/api"
	"phasor/apply"
	"phasor/run"
)

// slow is the machine as the chapter tells it, sentence by sentence; weights, choices and projections are written out.
type slow struct {
	c    api.Circuit
	s    []complex128
	bits []int
	log  []api.Outcome
	at   int
}

// slowNew is one at the beginning.
func slowNew(c api.Circuit) *slow {
	return slowFrom(c, basis(c.Qubits, 0), make([]int, c.Bits))
}

func slowFrom(c api.Circuit, s []complex128, bits []int) *slow {
	return &slow{c: deep(c), s: slices.Clone(s), bits: slices.Clone(bits)}
}

// weights are the sums of the squares with a qubit at 0, and at 1.
func (m *slow) weights(qubit int) (float64, float64) {
	var sums [2]float64
	var begun [2]bool
	for place, z := range m.s {
		v := place / (1 << qubit) % 2
		re, im := real(z)*real(z), imag(z)*imag(z)
		square := re + im
		if begun[v] {
			square = sums[v] + square
		}
		sums[v], begun[v] = square, true
	}
	return sums[0], sums[1]
}

// slowChoose is layer 11's Choose, and whether it takes what it is given.
func slowChoose(zero, one, u float64) (int, bool) {
	sum := zero + one
	if !(zero >= 0 && one >= 0 && sum > 0 && sum <= 1.7976931348623157e308 && u >= 0 && u < 1) {
		return 0, false
	}
	product := u * sum
	if one == 0 || zero != 0 && !(product < one) {
		return 0, true
	}
	return 1, true
}

// takes lets a measurement or a reset come to a value.
func (m *slow) takes(op api.Op, value int) {
	qubit := op.Qubits[0]
	zero, one := m.weights(qubit)
	outcome := api.Outcome{Op: m.at, Qubit: qubit, Bit: op.Bit, Value: value, Zero: zero, One: one}
	next := make([]complex128, len(m.s))
	for place, z := range m.s {
		if place/(1<<qubit)%2 == value {
			if op.Kind == api.OpReset {
				place -= value * (1 << qubit)
			}
			next[place] = z
		}
	}
	m.s = next
	if op.Kind == api.OpReset {
		outcome.Bit = -1
	} else {
		m.bits[op.Bit] = value
	}
	m.log = append(m.log, outcome)
	m.at++
}

// passes does a gate or a barrier, and tells whether it was one.
func (m *slow) passes(t *testing.T, op api.Op) bool {
	t.Helper()
	if op.Kind != api.OpGate && op.Kind != api.OpBarrier {
		return false
	}
	if op.Kind == api.OpGate && (op.If == -1 || m.bits[op.If] == op.When) {
		s, e := apply.Gate(m.s, op.Gate, op.Qubits)
		if e != api.OK {
			t.Fatal("Gate:", e)
		}
		m.s = s
	}
	m.at++
	return true
}

func (m *slow) step(t *testing.T, u float64) (bool, api.Errno) {
	t.Helper()
	if m.at == len(m.c.Ops) {
		return false, api.ErrRun
	}
	op := m.c.Ops[m.at]
	if m.passes(t, op) {
		return false, api.OK
	}
	zero, one := m.weights(op.Qubits[0])
	value, ok := slowChoose(zero, one, u)
	if !ok {
		return false, api.ErrRun
	}
	m.takes(op, value)
	return true, api.OK
}

func (m *slow) run(t *testing.T, us []float64) (int, api.Errno) {
	t.Helper()
	used := 0
	for m.at < len(m.c.Ops) {
		kind := m.c.Ops[m.at].Kind
		if kind == api.OpGate || kind == api.OpBarrier {
			m.step(t, nan)
			continue
		}
		if used == len(us) {
			return used, api.ErrRun
		}
		if _, e := m.step(t, us[used]); e != api.OK {
			return used, e
		}
		used++
	}
	return used, api.OK
}

// slowBranches tries all rows of values, in their order, and leaves out those in which a value has no weight above 0.
func slowBranches(t *testing.T, c api.Circuit) []api.Branch {
	t.Helper()
	many := measurements(c)
	var l []api.Branch
	for row := range 1 << many {
		var values []int
		for i := range many {
			values = append(values, row>>(many-1-i)&1)
		}
		if m := slowNew(c); m.follow(t, values) {
			l = append(l, api.Branch{Values: values, Weight: slowWeight(m.s), Bits: m.bits, State: m.s})
		}
	}
	return l
}

// follow goes to the end with these values, and tells whether they are possible.
func (m *slow) follow(t *testing.T, values []int) bool {
	t.Helper()
	for _, op := range m.c.Ops {
		if m.passes(t, op) {
			continue
		}
		zero, one := m.weights(op.Qubits[0])
		if !([2]float64{zero, one}[values[0]] > 0) {
			return false
		}
		m.takes(op, values[0])
		values = values[1:]
	}
	return true
}

func slowWeight(s []complex128) float64 {
	sum := 0.0
	for _, z := range s {
		re, im := real(z)*real(z), imag(z)*imag(z)
		square := re + im
		sum += square
	}
	return sum
}

func measurements(c api.Circuit) int {
	n := 0
	for _, op := range c.Ops {
		if op.Kind == api.OpMeasure || op.Kind == api.OpReset {
			n++
		}
	}
	return n
}

// wantLike holds all that a machine tells of itself against the slow one.
func wantLike(t *testing.T, what string, m *run.Machine, wanted *slow) {
	t.Helper()
	if m.At() != wanted.at || !slices.Equal(m.Bits(), wanted.bits) || !sameLog(m.Log(), wanted.log) || !sameState(m.State(), wanted.s) {
		t.Fatalf("%s: at %d, bits %v, log %v, state %v, not %d, %v, %v, %v", what, m.At(), m.Bits(), m.Log(), m.State(), wanted.at, wanted.bits, wanted.log, wanted.s)
	}
	op, ok := m.Next()
	next := api.Op{}
	if wanted.at < len(wanted.c.Ops) {
		next = wanted.c.Ops[wanted.at]
	}
	if ok != (wanted.at < len(wanted.c.Ops)) || !sameOp(op, next) {
		t.Fatalf("%s: Next: %v, %v, not %v", what, op, ok, next)
	}
}
