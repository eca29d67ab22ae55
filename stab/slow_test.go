package stab_test

import (
	"slices"
	"testing"

	"phasor/api"
	"phasor/pauli"
	"phasor/stab"
)

// slow is the machine as chapters 14 and 15 tell it, sentence by sentence, on strings of layer 13; the odds, the choice and the projection are written out.
type slow struct {
	c    api.Circuit
	t    api.Tableau
	bits []int
	log  []api.Outcome
	at   int
}

func slowNew(c api.Circuit) *slow {
	return &slow{c: deep(c), t: fresh(c.Qubits), bits: make([]int, c.Bits)}
}

// apart is a copy of all of it.
func (m *slow) apart() *slow {
	return &slow{c: deep(m.c), t: copied(m.t), bits: slices.Clone(m.bits), log: slices.Clone(m.log), at: m.at}
}

func mul(a, b api.Pauli) api.Pauli {
	p, e := pauli.Mul(a, b)
	if e != api.OK {
		panic("Mul")
	}
	return p
}

func through(p api.Pauli, k api.GateKind, qubits []int) api.Pauli {
	q, e := pauli.Through(p, k, qubits)
	if e != api.OK {
		panic("Through")
	}
	return q
}

// turnsOver tells whether a string does not commute with Z at a qubit: its letter there is X or Y.
func turnsOver(p api.Pauli, qubit int) bool {
	letter := pauli.Letter(p, qubit)
	return letter == 'X' || letter == 'Y'
}

func (m *slow) gate(op api.Op) {
	for i := range m.t.N {
		m.t.Stab[i] = through(m.t.Stab[i], op.Gate, op.Qubits)
		m.t.Destab[i] = through(m.t.Destab[i], op.Gate, op.Qubits)
	}
}

// weights are those of 0 and 1 of a qubit.
func (m *slow) weights(qubit int) (float64, float64) {
	all := api.Pauli{N: m.t.N}
	for i := range m.t.N {
		if turnsOver(m.t.Stab[i], qubit) {
			return 0.5, 0.5
		}
		if turnsOver(m.t.Destab[i], qubit) {
			all = mul(all, m.t.Stab[i])
		}
	}
	if all.Phase == 0 {
		return 1, 0
	}
	return 0, 1
}

// project leaves the tableau of a value that an open qubit came to.
func (m *slow) project(qubit, value int) {
	at := slices.IndexFunc(m.t.Stab, func(p api.Pauli) bool { return turnsOver(p, qubit) })
	if at < 0 {
		return
	}
	old := m.t.Stab[at]
	for i := range m.t.N {
		if i != at && turnsOver(m.t.Stab[i], qubit) {
			m.t.Stab[i] = mul(m.t.Stab[i], old)
		}
		if i != at && turnsOver(m.t.Destab[i], qubit) {
			m.t.Destab[i] = mul(m.t.Destab[i], old)
		}
	}
	m.t.Destab[at] = old
	m.t.Stab[at] = api.Pauli{N: m.t.N, Z: 1 << qubit, Phase: 2 * value}
}

// chosen is what a number decides, of weights that are together 1.
func chosen(one, u float64) int {
	if one == 1 || one == 0.5 && u < 0.5 {
		return 1
	}
	return 0
}

func (m *slow) step(u float64) (bool, api.Errno) {
	if m.at == len(m.c.Ops) {
		return false, api.ErrStab
	}
	op := m.c.Ops[m.at]
	if op.Kind == api.OpGate || op.Kind == api.OpBarrier {
		if op.Kind == api.OpGate && (op.If == -1 || m.bits[op.If] == op.When) {
			m.gate(op)
		}
		m.at++
		return false, api.OK
	}
	if !(u >= 0 && u < 1) {
		return false, api.ErrStab
	}
	qubit, bit := op.Qubits[0], op.Bit
	zero, one := m.weights(qubit)
	value := chosen(one, u)
	m.project(qubit, value)
	if op.Kind == api.OpMeasure {
		m.bits[bit] = value
	} else {
		bit = -1
		if value == 1 {
			m.gate(do(api.GateX, qubit))
		}
	}
	m.log = append(m.log, api.Outcome{Op: m.at, Qubit: qubit, Bit: bit, Value: value, Zero: zero, One: one})
	m.at++
	return true, api.OK
}

func (m *slow) run(us []float64) (int, api.Errno) {
	used := 0
	for m.at < len(m.c.Ops) {
		kind := m.c.Ops[m.at].Kind
		if kind == api.OpGate || kind == api.OpBarrier {
			m.step(nan)
			continue
		}
		if used == len(us) {
			return used, api.ErrStab
		}
		if _, e := m.step(us[used]); e != api.OK {
			return used, e
		}
		used++
	}
	return used, api.OK
}

func (m *slow) open() int {
	n := 0
	for _, o := range m.log {
		if o.Zero == 0.5 {
			n++
		}
	}
	return n
}

// wantLike holds all that a machine tells of itself against the slow one.
func wantLike(t *testing.T, what string, m *stab.Machine, wanted *slow) {
	t.Helper()
	if m.At() != wanted.at || !slices.Equal(m.Bits(), wanted.bits) || !sameLog(m.Log(), wanted.log) || m.Open() != wanted.open() || !sameTableau(m.Tableau(), wanted.t) {
		t.Fatalf("%s: at %d, bits %v, log %v, open %d, tableau %v, not %d, %v, %v, %d, %v", what, m.At(), m.Bits(), m.Log(), m.Open(), m.Tableau(), wanted.at, wanted.bits, wanted.log, wanted.open(), wanted.t)
	}
	op, ok := m.Next()
	next := api.Op{}
	if wanted.at < len(wanted.c.Ops) {
		next = wanted.c.Ops[wanted.at]
	}
	if ok != (wanted.at < len(wanted.c.Ops)) || !sameOp(op, next) {
		t.Fatalf("%s: Next: %v, %v, not %v", what, op, ok, next)
	}
}

// slowState tries one place behind the other.
func slowState(t api.Tableau) []complex128 {
	for k := range 1 << t.N {
		s := make([]complex128, 1<<t.N)
		s[k] = 1
		for _, p := range t.Stab {
			s = slowHalf(p, s)
		}
		if slices.ContainsFunc(s, func(z complex128) bool { return z != 0 }) {
			return s
		}
	}
	return nil
}

// slowHalf is half of a state plus what a string makes of it, which is told letter by letter.
func slowHalf(p api.Pauli, s []complex128) []complex128 {
	acted := make([]complex128, len(s))
	for place, z := range s {
		to, turn := place, p.Phase
		for q := range p.N {
			bit := place / (1 << q) % 2
			switch pauli.Letter(p, q) {
			case 'X':
				to ^= 1 << q
			case 'Y':
				to ^= 1 << q
				turn += 1 + 2*bit
			case 'Z':
				turn += 2 * bit
			}
		}
		for range turn % 4 {
			z = complex(-imag(z), real(z))
		}
		acted[to] = z
	}
	for place, z := range acted {
		// Adding the nought takes a nought's sign away.
		acted[place] = complex((real(s[place])+real(z))*0.5+0, (imag(s[place])+imag(z))*0.5+0)
	}
	return acted
}
