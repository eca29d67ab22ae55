package gate

import (
	"slices"

	"phasor/api"
)

// Compose answers the gate that two gates one behind the other are.
func Compose(first, then api.GateKind) (api.GateKind, bool) {
	a, e := Matrix(first)
	b, f := Matrix(then)
	if e != api.OK || f != api.OK || a.N != b.N {
		return 0, false
	}
	both := product(b, a)
	for _, g := range gatesOf(Arity(first)) {
		if equal(g.m, both) {
			return g.kinds[0], true
		}
	}
	return 0, false
}

// word is a row of kinds and what their matrices multiply to.
type word struct {
	kinds []api.GateKind
	m     api.Matrix
}

// gatesOf answers the gates of so many qubits as words of one kind.
func gatesOf(qubits int) []word {
	var l []word
	for _, k := range Kinds() {
		if Arity(k) == qubits {
			m, _ := Matrix(k)
			l = append(l, word{[]api.GateKind{k}, m})
		}
	}
	return l
}

// Word answers the shortest row of gates of one qubit that a matrix is.
//
// Words are made from the shortest on, and of those that are as long from the least on; so the first one of a matrix is the one to tell, and another of the same matrix leads to none that is.
func Word(m api.Matrix) ([]api.GateKind, api.Errno) {
	if m.N != 2 || len(m.E) != 4 {
		return nil, api.ErrGate
	}
	letters := gatesOf(1)
	unit, _ := Matrix(api.GateI)
	words := []word{{nil, unit}}
	for i := 0; i < len(words); i++ {
		if equal(words[i].m, m) {
			return words[i].kinds, api.OK
		}
		for _, g := range letters {
			next := word{append(slices.Clone(words[i].kinds), g.kinds...), product(g.m, words[i].m)}
			if !slices.ContainsFunc(words, func(w word) bool { return equal(w.m, next.m) }) {
				words = append(words, next)
			}
		}
	}
	return nil, api.ErrGate
}
