package code_test

import (
	"math"
	"slices"
	"testing"

	"phasor/api"
	"phasor/code"
)

// given is what the calls take; each takes some of it.
type given struct {
	name, inner string
	p           api.Pauli
	syndrome    []int
	zero, one   complex128
	s           []complex128
	kind        api.GateKind
}

// told is what the calls answer; each answers some of it.
type told struct {
	names     []string
	n         int
	strings   []api.Pauli
	p, q      api.Pauli
	syndrome  []int
	flag      bool
	zero, one complex128
	s         []complex128
	t         api.Tableau
}

// call is one of the package's.
type call struct {
	name string
	of   func(g given) (told, api.Errno)
}

var (
	namesOf = call{"Names", func(given) (told, api.Errno) {
		return told{names: code.Names()}, api.OK
	}}
	qubits = call{"Qubits", func(g given) (told, api.Errno) {
		return told{n: code.Qubits(g.name)}, api.OK
	}}
	stabilizers = call{"Stabilizers", func(g given) (told, api.Errno) {
		l, e := code.Stabilizers(g.name)
		return told{strings: l}, e
	}}
	logical = call{"Logical", func(g given) (told, api.Errno) {
		x, z, e := code.Logical(g.name)
		return told{p: x, q: z}, e
	}}
	syndrome = call{"Syndrome", func(g given) (told, api.Errno) {
		l, e := code.Syndrome(g.name, g.p)
		return told{syndrome: l}, e
	}}
	correction = call{"Correction", func(g given) (told, api.Errno) {
		p, found, e := code.Correction(g.name, g.syndrome)
		return told{p: p, flag: found}, e
	}}
	trivial = call{"Trivial", func(g given) (told, api.Errno) {
		is, e := code.Trivial(g.name, g.p)
		return told{flag: is}, e
	}}
	distance = call{"Distance", func(g given) (told, api.Errno) {
		n, e := code.Distance(g.name)
		return told{n: n}, e
	}}
	encode = call{"Encode", func(g given) (told, api.Errno) {
		s, e := code.Encode(g.name, g.zero, g.one)
		return told{s: s}, e
	}}
	look = call{"Read", func(g given) (told, api.Errno) {
		l, e := code.Read(g.name, g.s)
		return told{syndrome: l}, e
	}}
	correct = call{"Correct", func(g given) (told, api.Errno) {
		s, l, e := code.Correct(g.name, g.s)
		return told{s: s, syndrome: l}, e
	}}
	decode = call{"Decode", func(g given) (told, api.Errno) {
		zero, one, e := code.Decode(g.name, g.s)
		return told{zero: zero, one: one}, e
	}}
	tableauOf = call{"Tableau", func(g given) (told, api.Errno) {
		t, e := code.Tableau(g.name)
		return told{t: t}, e
	}}
	leastOf = call{"Least", func(g given) (told, api.Errno) {
		p, e := code.Least(g.name, g.syndrome)
		return told{p: p}, e
	}}
	concat = call{"Concat", func(g given) (told, api.Errno) {
		l, x, z, e := code.Concat(g.name, g.inner)
		return told{strings: l, p: x, q: z}, e
	}}
	lift = call{"Lift", func(g given) (told, api.Errno) {
		x, z, can, e := code.Lift(g.name, g.kind)
		return told{p: x, q: z, flag: can}, e
	}}
)

// ofCode are the calls that refuse the name of no code.
func ofCode() []call {
	return []call{stabilizers, logical, syndrome, correction, trivial, distance, encode, look, correct, decode, tableauOf, leastOf, concat, lift}
}

// asked calls with copies of all lists, which have room behind their ends, and takes these not to be changed, the answer to hang on nothing of them, nor one of its lists on another, and the next answer not on what was done with this one.
func (f call) asked(t *testing.T, g given) (told, api.Errno) {
	t.Helper()
	mine := g.roomy()
	answer, e := f.of(mine)
	if !mine.same(g) || !mine.untouched() {
		t.Fatalf("%s: what was handed in was changed", f.name)
	}
	ahead := answer.deep()
	mine.spoil()
	answer.overrun()
	if !answer.same(ahead) {
		t.Fatalf("%s: the answer shares memory", f.name)
	}
	answer.spoil()
	if again, _ := f.of(g); !again.same(ahead) {
		t.Fatalf("%s: the answer is kept", f.name)
	}
	return ahead, e
}

// answer is what a call answers that must not refuse.
func (f call) answer(t *testing.T, g given) told {
	t.Helper()
	answer, e := f.asked(t, g)
	if e != api.OK {
		t.Fatalf("%s of %v: error %d", f.name, g, e)
	}
	return answer
}

func (f call) want(t *testing.T, g given, wanted told) {
	t.Helper()
	if answer := f.answer(t, g); !answer.same(wanted) {
		t.Errorf("%s of %v: %v, not %v", f.name, g, answer, wanted)
	}
}

// refuses takes a call to answer the package's error, and nothing beside it.
func (f call) refuses(t *testing.T, g given) {
	t.Helper()
	if answer, e := f.asked(t, g); e != api.ErrCode || !answer.same(told{}) {
		t.Errorf("%s of %v: %v, error %d", f.name, g, answer, e)
	}
}

// wantSlow takes a call to answer what the chapter, written a second time, does.
func (f call) wantSlow(t *testing.T, g given) {
	t.Helper()
	wanted, refusal := slow(f.name, g)
	answer, e := f.asked(t, g)
	if e != refusal || !answer.same(wanted) {
		t.Fatalf("%s of %v: %v, error %d, not %v, error %d", f.name, g, answer, e, wanted, refusal)
	}
}

// same compares to the bit.
func (a told) same(b told) bool {
	return slices.Equal(a.names, b.names) && a.n == b.n && slices.Equal(a.strings, b.strings) && a.p == b.p && a.q == b.q &&
		slices.Equal(a.syndrome, b.syndrome) && a.flag == b.flag && sameNumber(a.zero, b.zero) && sameNumber(a.one, b.one) && sameState(a.s, b.s) &&
		a.t.N == b.t.N && slices.Equal(a.t.Stab, b.t.Stab) && slices.Equal(a.t.Destab, b.t.Destab)
}

func (a told) deep() told {
	a.names, a.strings, a.syndrome, a.s = slices.Clone(a.names), slices.Clone(a.strings), slices.Clone(a.syndrome), slices.Clone(a.s)
	a.t.Stab, a.t.Destab = slices.Clone(a.t.Stab), slices.Clone(a.t.Destab)
	return a
}

// overrun writes behind the ends of lists, where they have room: no other one may stand there.
func (a told) overrun() {
	wrong := api.Pauli{N: -7, Phase: -7}
	for _, l := range [][]api.Pauli{a.t.Stab, a.t.Destab} {
		_ = append(l, slices.Repeat([]api.Pauli{wrong}, 20)...)
		_ = append(l, wrong)
	}
}

// spoil writes over all lists.
func (a told) spoil() {
	for i := range a.names {
		a.names[i] = "spoiled"
	}
	for _, l := range [][]api.Pauli{a.strings, a.t.Stab, a.t.Destab} {
		for i := range l {
			l[i] = api.Pauli{N: 9, X: uint64(i), Phase: -9}
		}
	}
	for i := range a.syndrome {
		a.syndrome[i] = -9
	}
	for i := range a.s {
		a.s[i] = complex(math.Pi, 3)
	}
}

// room is how much of it lists are given behind their ends, and 7 is what stands there.
const room = 3

func roomy[T any](l []T, filled T) []T {
	wide := make([]T, 0, len(l)+room)
	wide = append(wide, l...)
	for i := range room {
		wide[:len(l)+room][len(l)+i] = filled
	}
	return wide
}

func (g given) roomy() given {
	g.syndrome, g.s = roomy(g.syndrome, 7), roomy(g.s, 7)
	return g
}

// behind answers what stands behind a list's end.
func behind[T any](l []T) []T { return l[len(l) : len(l)+room] }

// untouched tells whether what stands behind the lists' ends is as it was.
func (g given) untouched() bool {
	return slices.Equal(behind(g.syndrome), []int{7, 7, 7}) && slices.Equal(behind(g.s), []complex128{7, 7, 7})
}

func (g given) same(h given) bool {
	return slices.Equal(g.syndrome, h.syndrome) && sameState(g.s, h.s)
}

// spoil writes over all lists.
func (g given) spoil() {
	for i := range g.syndrome {
		g.syndrome[i] = -9
	}
	for i := range g.s {
		g.s[i] = complex(math.Pi, 3)
	}
}
