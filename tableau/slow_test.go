package tableau_test

import (
	"math/big"
	"math/bits"

	"phasor/api"
	"phasor/pauli"
)

// What tableaux are, written a second time: by letters, by all products of the stabilizers, and by amplitudes.

// parts tells whether strings do not commute: letters of one qubit that are unlike and not I turn the sign.
func parts(a, b api.Pauli) bool {
	odd := false
	for q := range a.N {
		x, y := a.X>>q&1+2*(a.Z>>q&1), b.X>>q&1+2*(b.Z>>q&1)
		if x != y && x != 0 && y != 0 {
			odd = !odd
		}
	}
	return odd
}

// slowRight is P14.1, sentence by sentence.
func slowRight(t api.Tableau) bool {
	if t.N < 0 || t.N > 64 || len(t.Stab) != t.N || len(t.Destab) != t.N {
		return false
	}
	for _, l := range [][]api.Pauli{t.Stab, t.Destab} {
		for _, p := range l {
			if pauli.Check(p) != api.OK || p.N != t.N || p.Phase != 0 && p.Phase != 2 {
				return false
			}
		}
		for _, p := range l {
			for _, q := range l {
				if parts(p, q) {
					return false
				}
			}
		}
	}
	for i := range t.N {
		for j := range t.N {
			if parts(t.Destab[i], t.Stab[j]) != (i == j) {
				return false
			}
		}
	}
	return true
}

// group is all products of the stabilizers.
func group(t api.Tableau) map[api.Pauli]bool {
	l := []api.Pauli{{N: t.N}}
	for _, p := range t.Stab {
		for _, q := range l {
			l = append(l, mul(q, p))
		}
	}
	all := map[api.Pauli]bool{}
	for _, p := range l {
		all[p] = true
	}
	return all
}

// slowMember looks for a string among all products.
func slowMember(t api.Tableau, p api.Pauli) int {
	all := group(t)
	switch {
	case all[p]:
		return 1
	case all[negative(p)]:
		return -1
	}
	return 0
}

// slowProduct is P14.4's: of all stabilizers whose destabilizer parts with a string.
func slowProduct(t api.Tableau, p api.Pauli) api.Pauli {
	all := api.Pauli{N: t.N}
	for i, d := range t.Destab {
		if parts(d, p) {
			all = mul(t.Stab[i], all)
		}
	}
	return all
}

// slowForce is P14.5 and P14.11, sentence by sentence; the number is -1, if there is nothing.
func slowForce(t api.Tableau, p api.Pauli) (api.Tableau, int) {
	at := -1
	for i := t.N - 1; i >= 0; i-- {
		if parts(t.Stab[i], p) {
			at = i
		}
	}
	if at < 0 {
		if slowProduct(t, p) == p {
			return t, 0
		}
		return api.Tableau{}, -1
	}
	left := fresh(t.N)
	for i := range t.N {
		left.Stab[i], left.Destab[i] = t.Stab[i], t.Destab[i]
		if i == at {
			left.Stab[i], left.Destab[i] = p, t.Stab[at]
			continue
		}
		if parts(t.Stab[i], p) {
			left.Stab[i] = mul(t.Stab[at], t.Stab[i])
		}
		if parts(t.Destab[i], p) {
			left.Destab[i] = mul(t.Stab[at], t.Destab[i])
		}
	}
	return left, 1
}

// slowRank is the rank of the stabilizers' bits at some qubits, as whole numbers of which none has the highest bit of another.
func slowRank(t api.Tableau, qubits []int) int {
	var basis []*big.Int
	for _, p := range t.Stab {
		row := new(big.Int)
		for j, q := range qubits {
			row.SetBit(row, 2*j, uint(p.X>>q&1))
			row.SetBit(row, 2*j+1, uint(p.Z>>q&1))
		}
		for _, b := range basis {
			if row.Bit(b.BitLen()-1) == 1 {
				row.Xor(row, b)
			}
		}
		if row.Sign() != 0 {
			basis = append(basis, row)
		}
	}
	return len(basis)
}

// slowCut is the entropy another way: the qubits, less the rank of the products that have I at all others.
func slowCut(t api.Tableau, qubits []int) int {
	var mask uint64
	for _, q := range qubits {
		mask |= 1 << q
	}
	inside := 0
	for p := range group(t) {
		if (p.X|p.Z)&^mask == 0 {
			inside++
		}
	}
	return len(qubits) - bits.TrailingZeros(uint(inside))
}

// slowState is a state that all stabilizers leave as it is: what they leave of the first basis state of which they leave something.
func slowState(t api.Tableau) []complex128 {
	for k := range 1 << t.N {
		s := make([]complex128, 1<<t.N)
		s[k] = 1
		for _, p := range t.Stab {
			acted, e := pauli.Act(p, s)
			if e != api.OK {
				panic("Act")
			}
			for place, z := range acted {
				s[place] = (s[place] + z) / 2
			}
		}
		if s[k] != 0 {
			return s
		}
	}
	panic("no state")
}

// weight is a state's, and inner the squared magnitude of what two have in common.
func weight(s []complex128) float64 { return real(dot(s, s)) }

func inner(a, b []complex128) float64 {
	z := dot(a, b)
	return real(z)*real(z) + imag(z)*imag(z)
}

func dot(a, b []complex128) complex128 {
	var sum complex128
	for k, z := range a {
		sum += complex(real(z), -imag(z)) * b[k]
	}
	return sum
}

// stabilized tells whether all stabilizers leave a state as it is, bit by bit but for signs of noughts.
func stabilized(t api.Tableau, s []complex128) bool {
	for _, p := range t.Stab {
		acted, e := pauli.Act(p, s)
		if e != api.OK {
			return false
		}
		for place, z := range acted {
			if z != s[place] {
				return false
			}
		}
	}
	return true
}
