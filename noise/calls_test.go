package noise_test

import (
	"math"
	"slices"
	"testing"

	"phasor/api"
	"phasor/noise"
)

// given is what the calls take; each takes some of it.
type given struct {
	c      api.Circuit
	slips  []api.Slip
	p      float64
	us     []float64
	values []int
	m      api.Matrix
	qubit  int
	k      api.Channel
	halves int
}

// fault is what Faults gives at one time.
type fault struct {
	slip  api.Slip
	frame api.Frame
}

// told is what the calls answer; each answers some of it.
type told struct {
	c      api.Circuit
	slips  []api.Slip
	n      int
	frame  api.Frame
	faults []fault
	floats []float64
	m      api.Matrix
}

// call is one of the package's. It answers a function that tells its answer: so Faults is ranged over only when what was handed in has been written over.
type call struct {
	name string
	of   func(g given) (func() told, api.Errno)
}

var (
	check = call{"Check", func(g given) (func() told, api.Errno) {
		return at(told{}), noise.Check(g.c, g.slips)
	}}
	insert = call{"Insert", func(g given) (func() told, api.Errno) {
		c, e := noise.Insert(g.c, g.slips)
		return at(told{c: c}), e
	}}
	draw = call{"Draw", func(g given) (func() told, api.Errno) {
		l, n, e := noise.Draw(g.c, g.p, g.us)
		return at(told{slips: l, n: n}), e
	}}
	carry = call{"Carry", func(g given) (func() told, api.Errno) {
		f, e := noise.Carry(g.c, g.slips)
		return at(told{frame: f}), e
	}}
	faults = call{"Faults", func(g given) (func() told, api.Errno) {
		all := noise.Faults(g.c)
		return func() told {
			var l []fault
			for s, f := range all {
				l = append(l, fault{s, f})
			}
			return told{faults: l}
		}, api.OK
	}}
	blind = call{"Blind", func(g given) (func() told, api.Errno) {
		l, e := noise.Blind(g.c)
		return at(told{slips: l}), e
	}}
	numbersFor = call{"Numbers", func(g given) (func() told, api.Errno) {
		us, e := noise.Numbers(g.values)
		return at(told{floats: us}), e
	}}
	pass = call{"Pass", func(g given) (func() told, api.Errno) {
		m, e := noise.Pass(g.m, g.qubit, g.k, g.halves)
		return at(told{m: m}), e
	}}
)

func at(answer told) func() told { return func() told { return answer } }

// ofCircuit are the calls that refuse what may not be with an error.
func ofCircuit() []call { return []call{check, insert, draw, carry, blind} }

// asked calls with copies of all lists, which have room behind their ends, and takes these not to be changed and the answer to hang on nothing of them, nor one of its lists on another.
func (f call) asked(t *testing.T, g given) (told, api.Errno) {
	t.Helper()
	mine := g.roomy()
	full, e := f.of(mine)
	if !mine.same(g) || !mine.untouched() {
		t.Fatalf("%s: what was handed in was changed", f.name)
	}
	mine.spoil()
	answer := full()
	ahead := answer.deep()
	mine.spoil()
	answer.overrun()
	if !answer.same(ahead) {
		t.Fatalf("%s: the answer shares memory", f.name)
	}
	if !answer.apart() {
		t.Fatalf("%s: lists of the answer share memory", f.name)
	}
	return ahead, e
}

// answer is what a call answers that must not refuse.
func (f call) answer(t *testing.T, g given) told {
	t.Helper()
	answer, e := f.asked(t, g)
	if e != api.OK {
		t.Fatalf("%s of %v: error %d", f.name, g, e)
	}
	return answer
}

func (f call) want(t *testing.T, g given, wanted told) {
	t.Helper()
	if answer := f.answer(t, g); !answer.same(wanted) {
		t.Errorf("%s of %v: %v, not %v", f.name, g, answer, wanted)
	}
}

// refuses takes a call to answer an error, and nothing beside it.
func (f call) refuses(t *testing.T, what string, g given, wanted api.Errno) {
	t.Helper()
	if answer, e := f.asked(t, g); e != wanted || !answer.same(told{}) {
		t.Errorf("%s of %s: %v, error %d, not %d", f.name, what, answer, e, wanted)
	}
}

// wantSlow takes a call to answer what the chapter, written a second time, does.
func (f call) wantSlow(t *testing.T, g given) {
	t.Helper()
	wanted, refusal := slow(f.name, g)
	answer, e := f.asked(t, g)
	if e != refusal || !answer.same(wanted) {
		t.Fatalf("%s of %v: %v, error %d, not %v, error %d", f.name, g, answer, e, wanted, refusal)
	}
}

// same compares to the bit.
func (a told) same(b told) bool {
	return sameCircuit(a.c, b.c) && slices.Equal(a.slips, b.slips) && a.n == b.n && sameFrame(a.frame, b.frame) &&
		slices.EqualFunc(a.faults, b.faults, sameFault) && slices.EqualFunc(a.floats, b.floats, sameFloat) && sameMatrix(a.m, b.m)
}

func sameFault(a, b fault) bool { return a.slip == b.slip && sameFrame(a.frame, b.frame) }

func (a told) deep() told {
	b := a
	b.c, b.frame, b.faults = deep(a.c), deepFrame(a.frame), nil
	for _, x := range a.faults {
		b.faults = append(b.faults, fault{x.slip, deepFrame(x.frame)})
	}
	b.slips, b.floats, b.m.E = slices.Clone(a.slips), slices.Clone(a.floats), slices.Clone(a.m.E)
	return b
}

func deepFrame(f api.Frame) api.Frame {
	f.Bits, f.Log = slices.Clone(f.Bits), slices.Clone(f.Log)
	return f
}

// overrun writes behind the ends of all lists within lists, where they have room: no other one may stand there.
func (a told) overrun() {
	for i := range a.c.Ops {
		_ = append(a.c.Ops[i].Qubits, -7, -7, -7)
	}
	for _, l := range a.flags() {
		_ = append(l, !slices.Contains(l, true), true, false, true)
	}
}

// flags are all lists of bits and outcomes.
func (a told) flags() [][]bool {
	l := [][]bool{a.frame.Bits, a.frame.Log}
	for _, x := range a.faults {
		l = append(l, x.frame.Bits, x.frame.Log)
	}
	return l
}

// apart tells whether what is written into each list within lists is found there, and in no other.
func (a told) apart() bool {
	for i, op := range a.c.Ops {
		for k := range op.Qubits {
			op.Qubits[k] = 100*i + k
		}
	}
	for i, op := range a.c.Ops {
		for k, q := range op.Qubits {
			if q != 100*i+k {
				return false
			}
		}
	}
	for turn := range 14 {
		for i, l := range a.flags() {
			for k := range l {
				l[k] = i>>turn&1 == 1
			}
		}
		for i, l := range a.flags() {
			if slices.Contains(l, i>>turn&1 == 0) {
				return false
			}
		}
	}
	return true
}

// room is how much of it lists are given behind their ends, and 7 is what stands there.
const room = 3

func roomy[T any](l []T, filled T) []T {
	wide := make([]T, 0, len(l)+room)
	wide = append(wide, l...)
	for i := range room {
		wide[:len(l)+room][len(l)+i] = filled
	}
	return wide
}

func (g given) roomy() given {
	g.c.Ops = roomy(g.c.Ops, api.Op{Kind: 7})
	for i := range g.c.Ops {
		g.c.Ops[i].Qubits = roomy(g.c.Ops[i].Qubits, 7)
	}
	g.slips = roomy(g.slips, api.Slip{After: 7})
	g.us, g.values, g.m.E = roomy(g.us, 7), roomy(g.values, 7), roomy(g.m.E, 7)
	return g
}

// behind answers what stands behind a list's end.
func behind[T any](l []T) []T { return l[len(l) : len(l)+room] }

// untouched tells whether what stands behind the lists' ends is as it was.
func (g given) untouched() bool {
	for i := range room {
		if behind(g.c.Ops)[i].Kind != 7 || behind(g.slips)[i].After != 7 || behind(g.us)[i] != 7 || behind(g.values)[i] != 7 || behind(g.m.E)[i] != 7 {
			return false
		}
	}
	return !slices.ContainsFunc(g.c.Ops, func(op api.Op) bool { return !slices.Equal(behind(op.Qubits), []int{7, 7, 7}) })
}

func (g given) same(h given) bool {
	return sameCircuit(g.c, h.c) && slices.Equal(g.slips, h.slips) && sameFloat(g.p, h.p) && slices.EqualFunc(g.us, h.us, sameFloat) &&
		slices.Equal(g.values, h.values) && sameMatrix(g.m, h.m) && g.qubit == h.qubit && g.k == h.k && g.halves == h.halves
}

// spoil writes over all lists.
func (g given) spoil() {
	for i, op := range g.c.Ops {
		for k := range op.Qubits {
			op.Qubits[k] = -9
		}
		g.c.Ops[i] = api.Op{Kind: 9, Gate: 9, Bit: 99, If: 99}
	}
	for i := range g.slips {
		g.slips[i] = api.Slip{After: -9}
	}
	for i := range g.us {
		g.us[i] = math.Pi
	}
	for i := range g.values {
		g.values[i] = -9
	}
	for i := range g.m.E {
		g.m.E[i] = complex(math.Pi, 3)
	}
}
