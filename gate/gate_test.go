package gate_test

import (
	"slices"
	"strings"
	"testing"

	"phasor/api"
	"phasor/gate"
)

// P6.1: every line of the table, at its number.
func TestTable(t *testing.T) {
	kinds := gate.Kinds()
	if len(kinds) != len(lines()) {
		t.Fatalf("%d kinds", len(kinds))
	}
	for i, l := range lines() {
		k := api.GateKind(i + 1)
		if kinds[i] != k {
			t.Errorf("kind %d at place %d", kinds[i], i)
		}
		if of, e := gate.Of(l.name); of != k || e != api.OK || gate.Name(k) != l.name {
			t.Errorf("%s: %d %d, named %q", l.name, of, e, gate.Name(k))
		}
		if gate.Arity(k) != l.qubits || gate.Controls(k) != l.controls {
			t.Errorf("%s: %d qubits, %d controls", l.name, gate.Arity(k), gate.Controls(k))
		}
	}
}

// R3: the list of kinds is the caller's own.
func TestKindsAreNewMemory(t *testing.T) {
	clear(gate.Kinds())
	if gate.Kinds()[0] != api.GateI || gate.Kinds()[19] != api.GateCSw {
		t.Errorf("%v", gate.Kinds())
	}
}

// P6.1: names are told by every letter of theirs.
func TestOfRefuses(t *testing.T) {
	names := []string{"", " ", "h", "t", "I", "X", "Cx", "CX", "cnot", "v", "sxd", "sxdgg", "c", "cs", "cswa", "cswapp", "iswapd", "id\x00", "x\n", "é", "\xff", "1", "toffoli", strings.Repeat("x", 1<<16)}
	for _, l := range lines() {
		names = append(names, l.name+" ", " "+l.name, strings.ToUpper(l.name), l.name+l.name)
	}
	for _, s := range names {
		if k, e := gate.Of(s); k != 0 || e != api.ErrGate {
			t.Errorf("%q: %d %d", s, k, e)
		}
	}
}

// P6.1 to P6.5: of no kind all is zero.
func TestNoKinds(t *testing.T) {
	for _, k := range noKinds() {
		if gate.Name(k) != "" || gate.Arity(k) != 0 || gate.Controls(k) != 0 || gate.Inverse(k) != 0 {
			t.Errorf("%d: %q %d %d %d", k, gate.Name(k), gate.Arity(k), gate.Controls(k), gate.Inverse(k))
		}
		if gate.Halving(k) || gate.Clifford(k) || gate.Diagonal(k) || gate.Monomial(k) {
			t.Errorf("%d: %t %t %t %t", k, gate.Halving(k), gate.Clifford(k), gate.Diagonal(k), gate.Monomial(k))
		}
		if m, e := gate.Matrix(k); m.N != 0 || len(m.E) != 0 || e != api.ErrGate {
			t.Errorf("%d: %v %d", k, m, e)
		}
		for index := -1; index < 9; index++ {
			if to, turn, ok := gate.Moves(k, index); to != 0 || turn != 0 || ok {
				t.Errorf("%d moves %d: %d %d %t", k, index, to, turn, ok)
			}
		}
	}
}

// P6.2: which kinds are so, by their names.
func TestTraits(t *testing.T) {
	for i, l := range lines() {
		k := api.GateKind(i + 1)
		among := func(names string) bool { return slices.Contains(strings.Fields(names), l.name) }
		if got := gate.Halving(k); got != among("sx sxdg sy sydg hh") {
			t.Errorf("%s: halving %t", l.name, got)
		}
		if got := gate.Clifford(k); got == among("ccx ccz cswap") {
			t.Errorf("%s: Clifford %t", l.name, got)
		}
		if got := gate.Diagonal(k); got != among("id z s sdg cz ccz") {
			t.Errorf("%s: diagonal %t", l.name, got)
		}
		if got := gate.Monomial(k); got == among("sx sxdg sy sydg hh") {
			t.Errorf("%s: monomial %t", l.name, got)
		}
	}
}

// P6.2: the words say of the matrices what they mean.
func TestTraitsByMatrices(t *testing.T) {
	for _, k := range allKinds() {
		s := squareOf(lineOf(k).entries())
		diagonal, monomial := true, true
		for j := range s.n {
			in := 0
			for i := range s.n {
				if s.e[s.n*i+j] == (whole{}) {
					continue
				}
				in++
				diagonal = diagonal && i == j
			}
			monomial = monomial && in == 1
		}
		if gate.Diagonal(k) != diagonal || gate.Monomial(k) != monomial || gate.Halving(k) == monomial {
			t.Errorf("%s: %t %t %t", lineOf(k).name, gate.Diagonal(k), gate.Monomial(k), gate.Halving(k))
		}
		if gate.Clifford(k) != clifford(s, lineOf(k).qubits) {
			t.Errorf("%s: Clifford %t", lineOf(k).name, gate.Clifford(k))
		}
	}
}

// clifford tells whether a gate makes a Pauli string of x and z at each of its qubits.
func clifford(s square, qubits int) bool {
	for q := range qubits {
		for _, letter := range []api.GateKind{api.GateX, api.GateZ} {
			p := squareOf(lineOf(letter).entries()).onto([]int{q}, qubits)
			if !isPauli(s.times(p).times(s.adjoint()), qubits) {
				return false
			}
		}
	}
	return true
}

// isPauli tells whether a matrix is a Pauli string, with one sign or the other.
func isPauli(s square, qubits int) bool {
	sign := unit(s.n)
	for i := range sign.e {
		sign.e[i].re = -sign.e[i].re
	}
	for code := range 1 << (2 * qubits) {
		p := unit(s.n)
		for q := range qubits {
			letter := api.GateKind(code>>(2*q)&3) + api.GateI
			p = p.times(squareOf(lineOf(letter).entries()).onto([]int{q}, qubits))
		}
		if s.is(p) || s.is(sign.times(p)) {
			return true
		}
	}
	return false
}

// P6.3: inverses by their names.
func TestInverse(t *testing.T) {
	pairs := [][2]string{{"s", "sdg"}, {"sx", "sxdg"}, {"sy", "sydg"}, {"iswap", "iswapdg"}}
	for i, l := range lines() {
		wanted := l.name
		for _, p := range pairs {
			switch l.name {
			case p[0]:
				wanted = p[1]
			case p[1]:
				wanted = p[0]
			}
		}
		if got := gate.Name(gate.Inverse(api.GateKind(i + 1))); got != wanted {
			t.Errorf("%s: %s", l.name, got)
		}
	}
}
