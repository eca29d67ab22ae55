package rewrite

import (
	"cmp"
	"slices"

	"phasor/api"
	"phasor/circuit"
)

// Order puts operations into the one order (P18.3).
func Order(c api.Circuit) (api.Circuit, api.Errno) {
	if _, e := circuit.Check(c); e != api.OK {
		return api.Circuit{}, e
	}
	b := laid(c, nearest)
	d := api.Circuit{Qubits: c.Qubits, Bits: c.Bits}
	ahead := b.counts()
	// No two that may come next have a qubit in common: they are never many.
	var next []int
	for at, n := range ahead {
		if n == 0 {
			next = append(next, at)
		}
	}
	for len(next) > 0 {
		at := slices.MinFunc(next, b.compare)
		next = slices.DeleteFunc(next, func(other int) bool { return other == at })
		d.Ops = append(d.Ops, *b.op(at))
		for behind := at + 1; behind < len(ahead); behind++ {
			if b.touches(at, behind) {
				ahead[behind]--
				if ahead[behind] == 0 {
					next = append(next, behind)
				}
			}
		}
	}
	return d, api.OK
}

// Reorders tells whether two circuits part in the order of what may change places alone (P18.5).
func Reorders(a, b api.Circuit) (bool, api.Errno) {
	first, e := Order(a)
	if e != api.OK {
		return false, e
	}
	second, e := Order(b)
	if e != api.OK {
		return false, e
	}
	return circuit.Same(first, second), api.OK
}

// counts answers for each place how many ahead of it touch what stands there.
func (b *bench) counts() []int {
	l := make([]int, len(b.gone))
	for at := range l {
		for ahead := range at {
			if b.touches(ahead, at) {
				l[at]++
			}
		}
	}
	return l
}

// compare holds what stands at two places against each other, in the one order.
func (b *bench) compare(i, j int) int {
	x, y := b.op(i), b.op(j)
	return cmp.Or(
		cmp.Compare(x.Kind, y.Kind),
		cmp.Compare(x.Gate, y.Gate),
		slices.Compare(x.Qubits, y.Qubits),
		cmp.Compare(x.Bit, y.Bit),
		cmp.Compare(x.If, y.If),
		cmp.Compare(x.When, y.When),
		cmp.Compare(i, j),
	)
}
