package tableau

import (
	"slices"

	"phasor/api"
)

// Odds tells what a qubit would be measured as (P14.4).
func Odds(t api.Tableau, qubit int) (int, api.Errno) {
	if e := checkQubit(t, qubit); e != api.OK {
		return 0, e
	}
	switch member(t, letterZ(t.N, qubit, 0)) {
	case 1:
		return 0, api.OK
	case -1:
		return 1, api.OK
	}
	return 2, api.OK
}

// Project answers what a measurement leaves (P14.5).
func Project(t api.Tableau, qubit int, value int) (api.Tableau, api.Errno) {
	if e := checkQubit(t, qubit); e != api.OK {
		return api.Tableau{}, e
	}
	if value != 0 && value != 1 {
		return api.Tableau{}, api.ErrArg
	}
	left, _, e := force(t, letterZ(t.N, qubit, value))
	return left, e
}

// Settle answers what a reset leaves (P14.5).
func Settle(t api.Tableau, qubit int, value int) (api.Tableau, api.Errno) {
	left, e := Project(t, qubit, value)
	if e != api.OK || value == 0 {
		return left, e
	}
	return through(left, api.GateX, qubit), api.OK
}

// Member tells whether a string, or its negative, stabilizes the state (P14.7).
func Member(t api.Tableau, p api.Pauli) (int, api.Errno) {
	if e := checkString(t, p); e != api.OK {
		return 0, e
	}
	return member(t, p), api.OK
}

// Force projects onto what a string stabilizes (P14.11).
func Force(t api.Tableau, p api.Pauli) (api.Tableau, int, api.Errno) {
	if e := checkString(t, p); e != api.OK {
		return api.Tableau{}, 0, e
	}
	return force(t, p)
}

// Overlap tells how near two states are (P14.12).
func Overlap(a, b api.Tableau) (int, api.Errno) {
	if Check(a) != api.OK || Check(b) != api.OK {
		return 0, api.ErrTableau
	}
	if a.N != b.N {
		return 0, api.ErrArg
	}
	sum := 0
	for i := range b.N {
		left, halved, e := force(a, b.Stab[i])
		if e != api.OK {
			return -1, api.OK
		}
		a = left
		sum += halved
	}
	return sum, api.OK
}

// checkQubit tells whether a tableau is right and has a qubit.
func checkQubit(t api.Tableau, qubit int) api.Errno {
	if e := Check(t); e != api.OK {
		return e
	}
	if qubit < 0 || qubit >= t.N {
		return api.ErrArg
	}
	return api.OK
}

// checkString tells whether a tableau is right, and may be asked of a string.
func checkString(t api.Tableau, p api.Pauli) api.Errno {
	if e := Check(t); e != api.OK {
		return e
	}
	if !signed(p, t.N) {
		return api.ErrArg
	}
	return api.OK
}

// letterZ is what stabilizes the states in which a qubit is at a value: Z there, with a sign for 1.
func letterZ(n, qubit, value int) api.Pauli {
	return api.Pauli{N: n, Z: 1 << qubit, Phase: 2 * value}
}

// turning answers what tells of a row whether it does not commute with p.
func turning(p api.Pauli) func(row api.Pauli) bool {
	return func(row api.Pauli) bool { return !commute(row, p) }
}

// member is Member of what may be asked.
//
// There are as many stabilizers as qubits, so what commutes with all of them is a product of some, but for a sign; which ones, the destabilizers tell: each parts with its own stabilizer alone.
func member(t api.Tableau, p api.Pauli) int {
	turned := turning(p)
	if slices.ContainsFunc(t.Stab, turned) {
		return 0
	}
	all := api.Pauli{N: t.N}
	for i := range t.N {
		if turned(t.Destab[i]) {
			all = product(all, t.Stab[i])
		}
	}
	if all == p {
		return 1
	}
	return -1
}

// force is Force of what may be asked; measurements are it, too, with Z at a qubit.
func force(t api.Tableau, p api.Pauli) (api.Tableau, int, api.Errno) {
	switch member(t, p) {
	case 1:
		return copied(t), 0, api.OK
	case -1:
		return api.Tableau{}, 0, api.ErrNothing
	}
	turned, left := turning(p), copied(t)
	at := slices.IndexFunc(left.Stab, turned)
	old := left.Stab[at]
	multiply(left.Stab, old, at, turned)
	multiply(left.Destab, old, at, turned)
	left.Stab[at], left.Destab[at] = p, old
	return left, 1, api.OK
}

// multiply puts a string behind each row that is told of, but for one.
func multiply(rows []api.Pauli, by api.Pauli, spared int, told func(row api.Pauli) bool) {
	for i := range len(rows) {
		if i != spared && told(rows[i]) {
			rows[i] = product(rows[i], by)
		}
	}
}
