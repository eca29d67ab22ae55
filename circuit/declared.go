package circuit

import (
	"phasor/api"
	"phasor/gate"
)

// declared is what a text has given names to, up to some place in it.
type declared struct {
	qubits, bits bank
	defines      map[string]define
}

func nothing() declared {
	return declared{
		qubits:  bank{registers: map[string]register{}, most: api.MaxWires},
		bits:    bank{registers: map[string]register{}, most: api.MaxBits},
		defines: map[string]define{},
	}
}

// gateOf answers what a gate's name stands for.
func (d *declared) gateOf(name string) (define, bool) {
	if k, e := gate.Of(name); e == api.OK {
		return single(api.OpGate, k, gate.Arity(k)), true
	}
	g, ok := d.defines[name]
	return g, ok
}

// taken tells whether a name stands for something already.
func (d *declared) taken(name string) bool {
	_, isGate := d.gateOf(name)
	return isGate || d.qubits.has(name) || d.bits.has(name)
}

// bank has the registers of one kind, one behind the other.
type bank struct {
	registers  map[string]register
	size, most int
}

// register is a piece of a bank.
type register struct {
	from, size int
}

func (b *bank) has(name string) bool {
	_, ok := b.registers[name]
	return ok
}

func (b *bank) add(name string, size int) {
	b.registers[name] = register{from: b.size, size: size}
	b.size += size
}

// define is what a gate's name stands for: how many names it has, how many operations it comes to, by which steps.
type define struct {
	names, ops int
	steps      []step
}

// step is one operation, or, if it has any inner steps, what these come to, on the names of these numbers.
type step struct {
	kind  api.OpKind
	gate  api.GateKind
	inner []step
	names []int
}

// single is one operation on so many names as a define.
func single(kind api.OpKind, k api.GateKind, names int) define {
	s := step{kind: kind, gate: k}
	for i := range names {
		s.names = append(s.names, i)
	}
	return define{names: names, ops: 1, steps: []step{s}}
}

// put adds a call. One of nothing leaves no step, and one of a single step leaves that step itself: so each step with inner ones parts into two or more that come to something, and going down through them is never longer than what they come to. (Else a short text could ask for steps without end that come to nothing.)
func (d *define) put(g define, names []int) {
	d.ops += g.ops
	switch len(g.steps) {
	case 0:
	case 1:
		s := g.steps[0]
		s.names = pick(names, s.names)
		d.steps = append(d.steps, s)
	default:
		d.steps = append(d.steps, step{inner: g.steps, names: names})
	}
}

// lay appends the operations that steps come to on qubits; their gates have a condition.
func lay(ops []api.Op, steps []step, qubits []int, on condition) []api.Op {
	for _, s := range steps {
		own := pick(qubits, s.names)
		switch {
		case len(s.inner) > 0:
			ops = lay(ops, s.inner, own, on)
		case s.kind == api.OpGate:
			ops = append(ops, api.Op{Kind: s.kind, Gate: s.gate, Qubits: own, If: on.bit, When: on.when})
		default:
			ops = append(ops, api.Op{Kind: s.kind, Qubits: own, If: always})
		}
	}
	return ops
}

// pick answers what stands in a list at some places.
func pick(l, places []int) []int {
	picked := make([]int, len(places))
	for i, p := range places {
		picked[i] = l[p]
	}
	return picked
}
