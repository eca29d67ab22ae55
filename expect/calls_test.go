package expect_test

import (
	"slices"
	"testing"

	"phasor/api"
	"phasor/expect"
)

// ofState is a call that takes a state, and maybe a string or terms; the string is that of the first term.
type ofState struct {
	name string
	of   func(s []complex128, terms []api.Term) (told, api.Errno)
}

var (
	value = ofState{"Value", func(s []complex128, terms []api.Term) (told, api.Errno) {
		z, e := expect.Value(s, terms[0].P)
		return told{z: z}, e
	}}
	energy = ofState{"Energy", func(s []complex128, terms []api.Term) (told, api.Errno) {
		x, e := expect.Energy(s, terms)
		return told{x: x}, e
	}}
	image = ofState{"Image", func(s []complex128, terms []api.Term) (told, api.Errno) {
		l, e := expect.Image(s, terms)
		return told{numbers: l}, e
	}}
	spread = ofState{"Spread", func(s []complex128, terms []api.Term) (told, api.Errno) {
		x, y, e := expect.Spread(s, terms)
		return told{x: x, y: y}, e
	}}
	table = ofState{"Table", func(s []complex128, _ []api.Term) (told, api.Errno) {
		l, e := expect.Table(s)
		return told{floats: l}, e
	}}
)

// sums are the calls that take terms.
func sums() []ofState { return []ofState{energy, image, spread} }

// asked calls, and takes what was handed in to be as it was.
func (f ofState) asked(t *testing.T, s []complex128, terms []api.Term) (told, api.Errno) {
	t.Helper()
	ahead, aheadTerms := slices.Clone(s), slices.Clone(terms)
	answer, e := f.of(s, terms)
	kept(t, f.name, s, ahead, sameNumber)
	kept(t, f.name, terms, aheadTerms, sameTerm)
	return answer, e
}

// answer is what a call answers that must not refuse.
func (f ofState) answer(t *testing.T, s []complex128, terms ...api.Term) told {
	t.Helper()
	answer, e := f.asked(t, s, terms)
	if e != api.OK {
		t.Fatalf("%s of %v, %v: error %d", f.name, s, terms, e)
	}
	return answer
}

func (f ofState) want(t *testing.T, s []complex128, terms []api.Term, wanted told) {
	t.Helper()
	if answer := f.answer(t, s, terms...); !answer.same(wanted) {
		t.Errorf("%s of %v, %v: %v, not %v", f.name, s, terms, answer, wanted)
	}
}

// refuses takes a call to answer an error, and nothing beside it.
func (f ofState) refuses(t *testing.T, what string, s []complex128, terms []api.Term, wanted api.Errno) {
	t.Helper()
	if answer, e := f.asked(t, s, terms); e != wanted || !answer.same(told{}) {
		t.Errorf("%s of %s: %v, error %d, not %d", f.name, what, answer, e, wanted)
	}
}

// valueOf is Value of a string.
func valueOf(t *testing.T, s []complex128, p api.Pauli) complex128 {
	t.Helper()
	return value.answer(t, s, api.Term{P: p}).z
}

func wantValue(t *testing.T, s []complex128, p api.Pauli, wanted complex128) {
	t.Helper()
	value.want(t, s, []api.Term{{P: p}}, told{z: wanted})
}

// ofTable is a call that takes a table.
type ofTable struct {
	name string
	of   func(table []float64) (told, api.Errno)
}

var (
	rebuild = ofTable{"Rebuild", func(table []float64) (told, api.Errno) {
		m, e := expect.Rebuild(table)
		return told{numbers: m.E, rows: m.N}, e
	}}
	purity = ofTable{"Purity", func(table []float64) (told, api.Errno) {
		x, e := expect.Purity(table)
		return told{x: x}, e
	}}
)

// asked calls, and takes what was handed in to be as it was.
func (f ofTable) asked(t *testing.T, table []float64) (told, api.Errno) {
	t.Helper()
	ahead := slices.Clone(table)
	answer, e := f.of(table)
	kept(t, f.name, table, ahead, sameFloat)
	return answer, e
}

func (f ofTable) answer(t *testing.T, table []float64) told {
	t.Helper()
	answer, e := f.asked(t, table)
	if e != api.OK {
		t.Fatalf("%s of %v: error %d", f.name, table, e)
	}
	return answer
}

func (f ofTable) want(t *testing.T, table []float64, wanted told) {
	t.Helper()
	if answer := f.answer(t, table); !answer.same(wanted) {
		t.Errorf("%s of %v: %v, not %v", f.name, table, answer, wanted)
	}
}

func (f ofTable) refuses(t *testing.T, what string, table []float64, wanted api.Errno) {
	t.Helper()
	if answer, e := f.asked(t, table); e != wanted || !answer.same(told{}) {
		t.Errorf("%s of %s: %v, error %d, not %d", f.name, what, answer, e, wanted)
	}
}

// carrier is a call that carries a string through a circuit.
type carrier struct {
	name string
	of   func(c api.Circuit, p api.Pauli) (api.Pauli, api.Errno)
}

var (
	back  = carrier{"Back", expect.Back}
	forth = carrier{"Forth", expect.Forth}
)

func carriers() []carrier { return []carrier{back, forth} }

func (f carrier) asked(t *testing.T, c api.Circuit, p api.Pauli) (api.Pauli, api.Errno) {
	t.Helper()
	ahead := deep(c)
	answer, e := f.of(c, p)
	if !sameCircuit(c, ahead) {
		t.Fatalf("%s: what was handed in was changed", f.name)
	}
	return answer, e
}

func (f carrier) answer(t *testing.T, c api.Circuit, p api.Pauli) api.Pauli {
	t.Helper()
	answer, e := f.asked(t, c, p)
	if e != api.OK {
		t.Fatalf("%s through %v of %v: error %d", f.name, c, p, e)
	}
	return answer
}

func (f carrier) want(t *testing.T, c api.Circuit, p, wanted api.Pauli) {
	t.Helper()
	if answer := f.answer(t, c, p); answer != wanted {
		t.Errorf("%s through %v of %v: %v, not %v", f.name, c, p, answer, wanted)
	}
}

func (f carrier) refuses(t *testing.T, what string, c api.Circuit, p api.Pauli, wanted api.Errno) {
	t.Helper()
	if answer, e := f.asked(t, c, p); e != wanted || answer != (api.Pauli{}) {
		t.Errorf("%s of %s: %v, error %d, not %d", f.name, what, answer, e, wanted)
	}
}
