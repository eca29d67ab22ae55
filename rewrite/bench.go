package rewrite

import (
	"phasor/api"
	"phasor/circuit"
)

// bench is a circuit that is worked on. Places keep their numbers: what is taken out is marked.
type bench struct {
	circuit api.Circuit
	wires   []uint64
	gone    []bool
	seen    []int // how far back each operation's partner has been looked for
	stops   stop
}

// stop tells whether the operation at the first place, which stands ahead, is the partner of the one at the second, if the search comes there. Rules turn no answer of it: what has been passed over need not be looked at again.
type stop func(b *bench, ahead, at int) bool

// laid lays a copy of a circuit that may be onto a bench.
func laid(c api.Circuit, stops stop) *bench {
	n := len(c.Ops)
	b := &bench{circuit.Copy(c), make([]uint64, n), make([]bool, n), make([]int, n), stops}
	for at := range n {
		b.wires[at] = wires(b.op(at))
		b.seen[at] = at - 1
	}
	return b
}

func (b *bench) op(at int) *api.Op { return &b.circuit.Ops[at] }

// touches is Touch of two places, by bits.
func (b *bench) touches(ahead, at int) bool {
	return b.wires[ahead]&b.wires[at] != 0 || bound(b.op(ahead), b.op(at))
}

// partner answers the place of an operation's partner, or -1.
func (b *bench) partner(at int) int {
	place := b.seen[at]
	for place >= 0 && (b.gone[place] || !b.stops(b, place, at)) {
		place--
	}
	b.seen[at] = place
	return place
}

// left answers the circuit of what has not been taken out.
func (b *bench) left() api.Circuit {
	c := api.Circuit{Qubits: b.circuit.Qubits, Bits: b.circuit.Bits}
	for at, op := range b.circuit.Ops {
		if !b.gone[at] {
			c.Ops = append(c.Ops, op)
		}
	}
	return c
}

// ruled answers what rules make of a circuit.
func ruled(c api.Circuit, stops stop, rules ...rule) (api.Circuit, api.Errno) {
	if _, e := circuit.Check(c); e != api.OK {
		return api.Circuit{}, e
	}
	b := laid(c, stops)
	b.use(rules)
	return b.left(), api.OK
}

// use uses rules as long as one may be used: at the least place at which one may be, the first that may be.
//
// Whether one may be used at a place hangs on what stands there and ahead; so, ahead of the least place that a use has changed, none may be used that could not be.
func (b *bench) use(rules []rule) {
	least := 0
anew:
	for {
		for at := least; at < len(b.gone); at++ {
			if b.gone[at] || !plain(b.op(at)) {
				continue
			}
			for _, used := range rules {
				if changed, ok := used(b, at); ok {
					least = changed
					continue anew
				}
			}
		}
		return
	}
}
