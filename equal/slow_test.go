package equal_test

import (
	"slices"

	"phasor/api"
	"phasor/apply"
	"phasor/gate"
	"phasor/matrix"
	"phasor/run"
)

// The chapter a second time, without layer 10's Ops and Unitary, layer 7's Phase, layer 13's Through and layer 12's Tally: what gates do is told by their matrices.

// powers are those of i.
var powers = [4]complex128{1, 1i, -1, -1i}

// slowGate is a gate done to a row of amplitudes by its matrix, each amplitude a sum of products. Of exact states nothing is rounded.
func slowGate(s []complex128, op api.Op) []complex128 {
	m, _ := gate.Matrix(op.Gate)
	made := make([]complex128, len(s))
	for place := range s {
		for column := range m.N {
			from, row := place, 0
			for t, q := range op.Qubits {
				row |= place >> q & 1 << t
				from = from&^(1<<q) | column>>t&1<<q
			}
			made[place] += m.E[m.N*row+column] * s[from]
		}
	}
	return made
}

// slowColumn is what a circuit of gates makes of a basis state.
func slowColumn(c api.Circuit, k int) []complex128 {
	s := make([]complex128, 1<<c.Qubits)
	s[k] = 1
	for _, op := range c.Ops {
		if op.Kind == api.OpGate {
			s = slowGate(s, op)
		}
	}
	return s
}

// roundedColumn is so, too, by layer 10's gates, one behind the other: where amplitudes are rounded, they are rounded as these are.
func roundedColumn(c api.Circuit, k int) []complex128 {
	s := make([]complex128, 1<<c.Qubits)
	s[k] = 1
	for _, op := range c.Ops {
		if op.Kind == api.OpGate {
			s, _ = apply.Gate(s, op.Gate, op.Qubits)
		}
	}
	return s
}

// columns are what a circuit makes of all basis states.
func columns(c api.Circuit, column func(c api.Circuit, k int) []complex128) [][]complex128 {
	var l [][]complex128
	for k := range 1 << c.Qubits {
		l = append(l, column(c, k))
	}
	return l
}

func slowPhase(a, b [][]complex128) int {
	for k, power := range powers {
		alike := true
		for i, column := range a {
			for j, z := range column {
				alike = alike && z == power*b[i][j]
			}
		}
		if alike {
			return k
		}
	}
	return -1
}

func slowWitness(a, b [][]complex128) int {
	for k := range a {
		if !slices.Equal(a[k], b[k]) {
			return k
		}
	}
	return -1
}

func slowDiagonal(a [][]complex128) bool {
	for i, column := range a {
		for j, z := range column {
			if i != j && z != 0 {
				return false
			}
		}
	}
	return true
}

// letterMatrix is the matrix of a string: the letters' matrices, the highest qubit's first, times the power of i.
func letterMatrix(p api.Pauli) api.Matrix {
	letters := [4][]complex128{{1, 0, 0, 1}, {0, 1, 1, 0}, {1, 0, 0, -1}, {0, -1i, 1i, 0}}
	m := api.Matrix{N: 1, E: []complex128{powers[p.Phase]}}
	for q := p.N - 1; q >= 0; q-- {
		m, _ = matrix.Kron(m, api.Matrix{N: 2, E: letters[p.X>>q&1|p.Z>>q&1<<1]})
	}
	return m
}

// circuitMatrix is the product of the gates' matrices, laid among the circuit's qubits.
func circuitMatrix(c api.Circuit) api.Matrix {
	m, _ := matrix.Identity(1 << c.Qubits)
	for _, op := range c.Ops {
		if op.Kind == api.OpGate {
			g, _ := gate.Matrix(op.Gate)
			g, _ = matrix.Place(g, op.Qubits, c.Qubits)
			m, _ = matrix.Mul(g, m)
		}
	}
	return m
}

// slowImage tells whether a string is what a circuit of a few qubits, of that matrix, makes of another: U * from * U adjoint.
func slowImage(u api.Matrix, from, to api.Pauli) bool {
	back, _ := matrix.Adjoint(u)
	m, _ := matrix.Mul(u, letterMatrix(from))
	m, _ = matrix.Mul(m, back)
	return matrix.Equal(m, letterMatrix(to))
}

// firsts are the strings of X alone and of Z alone, qubit by qubit.
func firsts(n int) []api.Pauli {
	var l []api.Pauli
	for q := range n {
		l = append(l, api.Pauli{N: n, X: 1 << q}, api.Pauli{N: n, Z: 1 << q})
	}
	return l
}

// slowTallies gathers branches by their bits, and looks each row of the one up in the other, both ways round.
func slowTallies(a, b api.Circuit) bool {
	ofA, ofB := gathered(a), gathered(b)
	within := func(l, others []api.Count) bool {
		for _, x := range l {
			if !slices.ContainsFunc(others, func(y api.Count) bool { return slices.Equal(x.Bits, y.Bits) && x.Weight == y.Weight }) {
				return false
			}
		}
		return true
	}
	return within(ofA, ofB) && within(ofB, ofA)
}

// gathered are the rows of bits in the order in which they come up.
func gathered(c api.Circuit) []api.Count {
	var l []api.Count
	for b := range run.Branches(c) {
		at := slices.IndexFunc(l, func(x api.Count) bool { return slices.Equal(x.Bits, b.Bits) })
		if at < 0 {
			at, l = len(l), append(l, api.Count{Bits: b.Bits})
		}
		l[at].Weight += b.Weight
	}
	return l
}
