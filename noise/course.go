package noise

import (
	"phasor/api"
	"phasor/pauli"
)

// step is what an operation does to a frame on its way. No phase is kept there: so strings are multiplied by their bits alone, letter by letter, and each letter goes its own way.
type step func(f *api.Frame)

// course is a circuit as frames go through it: its operations are looked at once, however many frames there are.
type course struct {
	qubits, bits, outcomes int
	steps                  []step
}

// courseOf answers the course of a circuit through which frames can be carried.
func courseOf(c api.Circuit) course {
	w := course{qubits: c.Qubits, bits: c.Bits}
	for _, op := range c.Ops {
		switch op.Kind {
		case api.OpGate:
			w.steps = append(w.steps, gateStep(op, c.Qubits))
		case api.OpMeasure:
			w.steps = append(w.steps, measureStep(op.Qubits[0], op.Bit, w.outcomes))
			w.outcomes++
		case api.OpReset:
			w.steps = append(w.steps, resetStep(op.Qubits[0], w.outcomes))
			w.outcomes++
		default:
			w.steps = append(w.steps, func(*api.Frame) {})
		}
	}
	return w
}

// carry answers what errors that fit come to in the end. Ahead of the first of them there is nothing to be carried.
func (w course) carry(slips ...api.Slip) api.Frame {
	f := api.Frame{
		P:    api.Pauli{N: w.qubits},
		Bits: make([]bool, w.bits),
		Log:  make([]bool, w.outcomes),
	}
	for i, s := range slips {
		until := len(w.steps)
		if i+1 < len(slips) {
			until = slips[i+1].After
		}
		f.P = times(f.P, s.P)
		for _, pass := range w.steps[s.After:until] {
			pass(&f)
		}
	}
	return f
}

// gateStep answers the step of a gate. One with a condition is done on the one side and left on the other, if its bit is turned: its letter is what they then differ by.
func gateStep(op api.Op, n int) step {
	if op.If == always {
		return throughStep(op.Gate, op.Qubits, n)
	}
	l, _ := letterOf(op.Gate)
	bit, p := op.If, alone(l, op.Qubits[0], n)
	return func(f *api.Frame) {
		if f.Bits[bit] {
			f.P = times(f.P, p)
		}
	}
}

// change is what a gate does to a letter: by what its image differs from it.
type change struct {
	letter, by api.Pauli
}

// throughStep answers the step of a gate that is always done: X and Z at each of its qubits become what layer 13 says, and a string what its letters do.
func throughStep(kind api.GateKind, qubits []int, n int) step {
	var changes []change
	for _, qubit := range qubits {
		for _, l := range [...]letter{letterX, letterZ} {
			p := alone(l, qubit, n)
			image, _ := pauli.Through(p, kind, qubits)
			changes = append(changes, change{p, times(p, image)})
		}
	}
	return func(f *api.Frame) {
		ahead := f.P
		for _, c := range changes {
			if ahead.X&c.letter.X|ahead.Z&c.letter.Z != 0 {
				f.P = times(f.P, c.by)
			}
		}
	}
}

func measureStep(qubit, bit, outcome int) step {
	return func(f *api.Frame) {
		turned := turns(f.P, qubit)
		f.Log[outcome], f.Bits[bit] = turned, turned
	}
}

func resetStep(qubit, outcome int) step {
	return func(f *api.Frame) {
		f.Log[outcome] = turns(f.P, qubit)
		f.P.X &^= 1 << qubit
		f.P.Z &^= 1 << qubit
	}
}

// turns tells whether a string turns what a qubit is measured to be: whether it has X or Y there.
func turns(p api.Pauli, qubit int) bool { return p.X>>qubit&1 == 1 }

// times multiplies strings of one number of qubits, but for their phases.
func times(a, b api.Pauli) api.Pauli {
	return api.Pauli{N: a.N, X: a.X ^ b.X, Z: a.Z ^ b.Z}
}
