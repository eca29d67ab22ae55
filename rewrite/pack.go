package rewrite

import (
	"phasor/api"
	"phasor/circuit"
	"phasor/gate"
)

// Pack writes rows of gates of one qubit by their words (P18.8).
func Pack(c api.Circuit) (api.Circuit, api.Errno) {
	if _, e := circuit.Check(c); e != api.OK {
		return api.Circuit{}, e
	}
	var (
		p pen
		l lexicon
	)
	first, products := rows(c.Ops)
	for at, op := range c.Ops {
		p.like = op
		switch first[at] {
		case none:
			p.write(op.Gate, op.Qubits...)
		case at:
			for _, k := range l.word(products[at]) {
				p.write(k, op.Qubits...)
			}
		}
	}
	return api.Circuit{Qubits: c.Qubits, Bits: c.Bits, Ops: p.ops}, api.OK
}

// none is the row of what is in no row.
const none = -1

// rows answers at which place the row of each operation begins, and at these places its product.
//
// Gates of one qubit without a condition touch nothing but what has their qubit: a row goes on till something else has it.
func rows(ops []api.Op) ([]int, []square) {
	var row [api.MaxWires]int // which row each qubit is in
	for q := range row {
		row[q] = none
	}
	first, products := make([]int, len(ops)), make([]square, len(ops))
	for at := range ops {
		op := &ops[at]
		if !plain(op) || len(op.Qubits) != 1 {
			for _, q := range op.Qubits {
				row[q] = none
			}
			first[at] = none
			continue
		}
		q := op.Qubits[0]
		if row[q] == none {
			row[q], products[at] = at, squareOf(op.Gate)
		} else {
			products[row[q]] = squareOf(op.Gate).times(products[row[q]])
		}
		first[at] = row[q]
	}
	return first, products
}

// square is the entries of a matrix of two rows.
type square [4]complex128

// squareOf answers that of a gate of one qubit.
func squareOf(k api.GateKind) square {
	var s square
	m, _ := gate.Matrix(k)
	copy(s[:], m.E)
	return s
}

// times multiplies. Parts of products of gates are nought, halves and ones: nothing is rounded.
func (a square) times(b square) square {
	return square{
		a[0]*b[0] + a[1]*b[2], a[0]*b[1] + a[1]*b[3],
		a[2]*b[0] + a[3]*b[2], a[2]*b[1] + a[3]*b[3],
	}
}

// lexicon keeps words that have been looked up: products of gates are few, and to find a word takes long.
type lexicon struct {
	squares []square
	words   [][]api.GateKind
}

func (l *lexicon) word(s square) []api.GateKind {
	for i, other := range l.squares {
		if other == s {
			return l.words[i]
		}
	}
	w, _ := gate.Word(api.Matrix{N: 2, E: s[:]})
	l.squares, l.words = append(l.squares, s), append(l.words, w)
	return w
}
