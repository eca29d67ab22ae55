package density_test

import (
	"math"
	"slices"
	"testing"

	"phasor/api"
	"phasor/density"
)

// given is what the calls take; each takes some of it.
type given struct {
	m      api.Matrix
	l      []api.Matrix
	s      []complex128
	qubits []int
	kind   api.GateKind
	p      api.Pauli
}

// told is what the calls answer; each answers one of it.
type told struct {
	n      int
	m      api.Matrix
	z      complex128
	x      float64
	is     bool
	floats []float64
}

// call is one of the package's.
type call struct {
	name string
	of   func(g given) (told, api.Errno)
}

var (
	check = call{"Check", func(g given) (told, api.Errno) {
		n, e := density.Check(g.m)
		return told{n: n}, e
	}}
	from      = call{"From", func(g given) (told, api.Errno) { return matrixTold(density.From(g.s)) }}
	mix       = call{"Mix", func(g given) (told, api.Errno) { return matrixTold(density.Mix(g.l)) }}
	keep      = call{"Keep", func(g given) (told, api.Errno) { return matrixTold(density.Keep(g.m, g.qubits)) }}
	gateOn    = call{"Gate", func(g given) (told, api.Errno) { return matrixTold(density.Gate(g.m, g.kind, g.qubits)) }}
	kraus     = call{"Kraus", func(g given) (told, api.Errno) { return matrixTold(density.Kraus(g.m, g.l)) }}
	stringIn  = call{"Pauli", func(g given) (told, api.Errno) { return numberTold(density.Pauli(g.m, g.p)) }}
	fidelity  = call{"Fidelity", func(g given) (told, api.Errno) { return numberTold(density.Fidelity(g.m, g.s)) }}
	hermitian = call{"Hermitian", func(g given) (told, api.Errno) { return told{is: density.Hermitian(g.m)}, api.OK }}
	purity    = call{"Purity", func(g given) (told, api.Errno) {
		x, e := density.Purity(g.m)
		return told{x: x}, e
	}}
	weights = call{"Weights", func(g given) (told, api.Errno) {
		l, e := density.Weights(g.m)
		return told{floats: l}, e
	}}
	product = call{"Product", func(g given) (told, api.Errno) {
		is, e := density.Product(g.s, g.qubits)
		return told{is: is}, e
	}}
)

// ofMatrix are the calls that refuse what is no density matrix.
func ofMatrix() []call {
	return []call{check, keep, gateOn, kraus, stringIn, fidelity, purity, weights}
}

func matrixTold(m api.Matrix, e api.Errno) (told, api.Errno) { return told{m: m}, e }

func numberTold(z complex128, e api.Errno) (told, api.Errno) { return told{z: z}, e }

// asked calls with copies of all lists, which have room behind their ends, and takes these not to be changed and the answer to hang on nothing of them.
func (f call) asked(t *testing.T, g given) (told, api.Errno) {
	t.Helper()
	mine := g.roomy()
	answer, e := f.of(mine)
	if !mine.same(g) || !mine.untouched() {
		t.Fatalf("%s: what was handed in was changed", f.name)
	}
	ahead := answer.deep()
	mine.spoil()
	if !answer.same(ahead) {
		t.Fatalf("%s: the answer shares memory with what was handed in", f.name)
	}
	return answer, e
}

// answer is what a call answers that must not refuse.
func (f call) answer(t *testing.T, g given) told {
	t.Helper()
	answer, e := f.asked(t, g)
	if e != api.OK {
		t.Fatalf("%s of %v: error %d", f.name, g, e)
	}
	return answer
}

func (f call) want(t *testing.T, g given, wanted told) {
	t.Helper()
	if answer := f.answer(t, g); !answer.same(wanted) {
		t.Errorf("%s of %v: %v, not %v", f.name, g, answer, wanted)
	}
}

// refuses takes a call to answer an error, and nothing beside it.
func (f call) refuses(t *testing.T, what string, g given, wanted api.Errno) {
	t.Helper()
	if answer, e := f.asked(t, g); e != wanted || !answer.same(told{}) {
		t.Errorf("%s of %s: %v, error %d, not %d", f.name, what, answer, e, wanted)
	}
}

// wantSlow takes a call to answer what the chapter, written a second time, does.
func (f call) wantSlow(t *testing.T, g given) {
	t.Helper()
	f.want(t, g, slow(f.name, g))
}

// same compares to the bit.
func (a told) same(b told) bool {
	return a.n == b.n && sameMatrix(a.m, b.m) && sameNumber(a.z, b.z) && sameFloat(a.x, b.x) && a.is == b.is &&
		slices.EqualFunc(a.floats, b.floats, sameFloat)
}

func (a told) deep() told {
	a.m.E, a.floats = slices.Clone(a.m.E), slices.Clone(a.floats)
	return a
}

// room is how much of it lists are given behind their ends, and 7 is what stands there.
const room = 3

func roomy[T any](l []T, filled T) []T {
	wide := make([]T, 0, len(l)+room)
	wide = append(wide, l...)
	for i := range room {
		wide[:len(l)+room][len(l)+i] = filled
	}
	return wide
}

func (g given) roomy() given {
	g.m.E, g.s, g.qubits = roomy(g.m.E, 7), roomy(g.s, 7), roomy(g.qubits, 7)
	l := roomy(g.l, api.Matrix{N: 7})
	for i := range l {
		l[i].E = roomy(l[i].E, 7)
	}
	g.l = l
	return g
}

// untouched tells whether what stands behind the lists' ends is as it was.
func (g given) untouched() bool {
	for i := range room {
		n, k, q := len(g.m.E)+i, len(g.s)+i, len(g.qubits)+i
		if g.m.E[:n+1][n] != 7 || g.s[:k+1][k] != 7 || g.qubits[:q+1][q] != 7 || g.l[:len(g.l)+i+1][len(g.l)+i].N != 7 {
			return false
		}
	}
	return true
}

func (g given) same(h given) bool {
	return sameMatrix(g.m, h.m) && slices.EqualFunc(g.l, h.l, sameMatrix) && slices.EqualFunc(g.s, h.s, sameNumber) &&
		slices.Equal(g.qubits, h.qubits) && g.kind == h.kind && g.p == h.p
}

// spoil writes over all lists.
func (g given) spoil() {
	for _, l := range append([][]complex128{g.m.E, g.s}, entries(g.l)...) {
		for i := range l {
			l[i] = complex(math.Pi, 3)
		}
	}
	for i := range g.qubits {
		g.qubits[i] = -9
	}
}

func entries(l []api.Matrix) [][]complex128 {
	var rows [][]complex128
	for _, m := range l {
		rows = append(rows, m.E)
	}
	return rows
}
