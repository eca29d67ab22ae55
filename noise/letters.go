package noise

import (
	"iter"

	"phasor/api"
	"phasor/pauli"
)

// letter is what may stand at a qubit of a string.
type letter int

// The letters, as they follow one another where each of them strikes.
const (
	letterI letter = iota
	letterX
	letterY
	letterZ
)

// mark is what is said of a letter: the gate that does it, and its bits of X and Z.
type mark struct {
	gate api.GateKind
	x, z uint64
}

// marks has each letter's.
var marks = [...]mark{
	letterI: {api.GateI, 0, 0},
	letterX: {api.GateX, 1, 0},
	letterY: {api.GateY, 1, 1},
	letterZ: {api.GateZ, 0, 1},
}

// letterOf answers the letter that a gate does; false of a gate that does none.
func letterOf(k api.GateKind) (letter, bool) {
	for l, m := range marks {
		if m.gate == k {
			return letter(l), true
		}
	}
	return letterI, false
}

// alone answers the string of n qubits that has one letter.
func alone(l letter, qubit, n int) api.Pauli {
	m := marks[l]
	return api.Pauli{N: n, X: m.x << qubit, Z: m.z << qubit}
}

// letters goes through the letters that are not I, with their qubits: slip by slip, from qubit 0 on.
func letters(slips ...api.Slip) iter.Seq2[int, letter] {
	return func(yield func(int, letter) bool) {
		for _, s := range slips {
			for qubit := range s.P.N {
				// The bytes of X, Y and Z follow one another, as the letters do; that of I is far ahead of them.
				l := pauli.Letter(s.P, qubit)
				if l != 'I' && !yield(qubit, letterX+letter(l-'X')) {
					return
				}
			}
		}
	}
}
