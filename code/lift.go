package code

import (
	"phasor/api"
	"phasor/pauli"
	"phasor/tableau"
)

// Tableau answers the code's tableau (P25.5).
func Tableau(name string) (api.Tableau, api.Errno) {
	c, e := find(name)
	if e != api.OK {
		return api.Tableau{}, e
	}
	return c.tableau(), api.OK
}

// Concat keeps one code's qubits in another one (P25.7).
func Concat(outer string, inner string) ([]api.Pauli, api.Pauli, api.Pauli, api.Errno) {
	out, e := find(outer)
	in, f := find(inner)
	if e != api.OK || f != api.OK || out.n*in.n > api.MaxWires {
		return nil, api.Pauli{}, api.Pauli{}, api.ErrCode
	}
	var l []api.Pauli
	for block := range out.n {
		for _, s := range in.stabilizers {
			l = append(l, in.placed(s, block, out.n))
		}
	}
	for _, s := range out.stabilizers {
		l = append(l, in.spread(s))
	}
	return l, in.spread(out.x), in.spread(out.z), api.OK
}

// Lift tells what a gate on each qubit does to what is encoded (P25.8).
func Lift(name string, kind api.GateKind) (api.Pauli, api.Pauli, bool, api.Errno) {
	c, e := find(name)
	if _, f := pauli.Through(api.Pauli{N: 1}, kind, []int{0}); e != api.OK || f != api.OK {
		return api.Pauli{}, api.Pauli{}, false, api.ErrCode
	}
	for _, s := range c.stabilizers {
		if image := through(s, kind); !c.trivial(image) || c.sign(image) != 1 {
			return api.Pauli{}, api.Pauli{}, false, api.OK
		}
	}
	return c.says(through(c.x, kind)), c.says(through(c.z, kind)), true, api.OK
}

// tableau has, beside what leaves an encoded 0 as it is, a string for each stabilizer that commutes with all but it, and the logical X for the logical Z.
func (c code) tableau() api.Tableau {
	t := api.Tableau{N: c.n, Stab: c.settled()}
	for i := range c.stabilizers {
		single := make([]int, len(c.stabilizers))
		single[i] = 1
		p := c.least(single)
		for _, pair := range [][2]api.Pauli{{c.x, c.z}, {c.z, c.x}} {
			if apart(p, pair[0]) == 1 {
				p = times(p, pair[1])
			}
		}
		for k, d := range t.Destab {
			if apart(p, d) == 1 {
				p = times(p, t.Stab[k])
			}
		}
		p.Phase = 0
		t.Destab = append(t.Destab, p)
	}
	t.Destab = append(t.Destab, c.x)
	return t
}

// sign is 1 of a product of stabilizers, -1, if its negative is one.
func (c code) sign(p api.Pauli) int {
	sign, _ := tableau.Member(c.tableau(), p)
	return sign
}

// placed is a string of the code's qubits in one of so many blocks.
func (c code) placed(p api.Pauli, block, blocks int) api.Pauli {
	at := block * c.n
	return api.Pauli{N: blocks * c.n, X: p.X << at, Z: p.Z << at, Phase: p.Phase}
}

// spread is a string with the sign + of which each qubit is kept in a block of the code.
func (c code) spread(p api.Pauli) api.Pauli {
	whole := api.Pauli{N: p.N * c.n}
	for block := range p.N {
		letter := api.Pauli{N: 1, X: p.X >> block & 1, Z: p.Z >> block & 1}
		whole = times(whole, c.placed(c.kept(letter), block, p.N))
	}
	return whole
}

// kept is what a letter is when its qubit is kept in the code: Y is i times X times Z there as elsewhere.
func (c code) kept(p api.Pauli) api.Pauli {
	whole := api.Pauli{N: c.n, Phase: int(p.X & p.Z)}
	if p.X == 1 {
		whole = times(whole, c.x)
	}
	if p.Z == 1 {
		whole = times(whole, c.z)
	}
	return whole
}

// says tells which string of one qubit is kept as this one, which commutes with all stabilizers, but for a product of these.
func (c code) says(p api.Pauli) api.Pauli {
	one := api.Pauli{N: 1, X: uint64(apart(p, c.z)), Z: uint64(apart(p, c.x))}
	if c.sign(times(p, c.kept(one))) != 1 {
		one.Phase = 2
	}
	return one
}

// through is what becomes of a string by a gate of one qubit on each.
func through(p api.Pauli, kind api.GateKind) api.Pauli {
	for qubit := range p.N {
		p, _ = pauli.Through(p, kind, []int{qubit})
	}
	return p
}
