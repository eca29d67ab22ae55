package code

import (
	"slices"

	"phasor/api"
	"phasor/pauli"
	"phasor/plane"
	"phasor/state"
)

// What Read says of a stabilizer that neither leaves the state as it is nor turns its sign.
const neither = 2

// Encode encodes a qubit (P25.3).
func Encode(name string, zero complex128, one complex128) ([]complex128, api.Errno) {
	c, e := find(name)
	if e != api.OK {
		return nil, e
	}
	return c.encode(zero, one), api.OK
}

// Read reads the syndrome of a state (P25.4).
func Read(name string, s []complex128) ([]int, api.Errno) {
	c, e := find(name)
	if e != api.OK || !c.holds(s) {
		return nil, api.ErrCode
	}
	return c.look(s), api.OK
}

// Correct takes an error back (P25.4).
func Correct(name string, s []complex128) ([]complex128, []int, api.Errno) {
	syndrome, e := Read(name, s)
	if e != api.OK {
		return nil, nil, e
	}
	p, found, _ := Correction(name, syndrome) // which takes no row with a 2 in it
	if !found {
		return nil, nil, api.ErrCode
	}
	mended, e := pauli.Act(p, s)
	return mended, syndrome, e
}

// Decode reads the qubit (P25.4).
func Decode(name string, s []complex128) (complex128, complex128, api.Errno) {
	c, e := find(name)
	if e != api.OK || !c.holds(s) {
		return 0, 0, api.ErrCode
	}
	zero, _ := state.Dot(c.encode(1, 0), s)
	one, e := state.Dot(c.encode(0, 1), s)
	return zero, one, e
}

// holds tells whether a row of amplitudes is a state of the code's qubits.
func (c code) holds(s []complex128) bool {
	n, e := state.Check(s)
	return e == api.OK && n == c.n
}

func (c code) encode(zero, one complex128) []complex128 {
	s := c.project(zero)
	turned, _ := pauli.Act(c.x, c.project(one))
	for k, z := range turned {
		s[k] = plane.Clean(plane.Add(s[k], z))
	}
	return s
}

// project is the chapter's K: what is left of an amplitude at place 0 by what all stabilizers, and the logical Z, leave as it is.
func (c code) project(z complex128) []complex128 {
	s := make([]complex128, 1<<c.n)
	s[0] = z
	for _, p := range c.settled() {
		turned, _ := pauli.Act(p, s)
		for k := range s {
			half, _ := plane.Half(plane.Add(s[k], turned[k]), 1)
			s[k] = plane.Clean(half)
		}
	}
	return s
}

// settled are the strings that leave an encoded 0 as it is.
func (c code) settled() []api.Pauli { return append(slices.Clone(c.stabilizers), c.z) }

// look reads the syndrome of a state that fits.
func (c code) look(s []complex128) []int {
	l := make([]int, len(c.stabilizers))
	for i, p := range c.stabilizers {
		turned, _ := pauli.Act(p, s)
		switch {
		case slices.EqualFunc(turned, s, plane.Equal):
			l[i] = 0
		case slices.EqualFunc(turned, s, opposite):
			l[i] = 1
		default:
			l[i] = neither
		}
	}
	return l
}

// opposite tells whether a number is the other one with both signs turned.
func opposite(a, b complex128) bool { return plane.Equal(a, plane.Neg(b)) }
