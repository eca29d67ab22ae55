package fuse

import (
	"math/bits"

	"phasor/api"
)

// wires is a set of qubits. A circuit has at most MaxWires (64) of them: each is a bit.
type wires struct {
	set uint64
}

// with answers the set with some qubits put in.
func (w wires) with(qubits []int) wires {
	for _, q := range qubits {
		w.set |= 1 << q
	}
	return w
}

func (w wires) many() int { return bits.OnesCount64(w.set) }

// row is gates that go together, and all of their qubits.
type row struct {
	wires
	places []int
}

// plan is the rows that have begun so far.
type plan struct {
	most int // how many qubits gates of a row may have together
	rows []row
	wall int         // how many of the rows began ahead of the last wall
	last map[int]int // the last row behind that wall that a qubit is in
}

// planned answers which of a checked circuit's gates go together.
func planned(ops []api.Op, most int) [][]int {
	p := plan{most: most, last: map[int]int{}}
	for place, op := range ops {
		if op.Kind == api.OpBarrier {
			p.part()
		} else {
			p.join(place, op.Qubits)
		}
	}
	l := make([][]int, len(p.rows))
	for i, r := range p.rows {
		l[i] = r.places
	}
	return l
}

// part builds a wall behind all rows, whichever qubits its barrier has.
func (p *plan) part() {
	p.wall = len(p.rows)
	for q := range p.last {
		delete(p.last, q)
	}
}

// join puts the gate at a place into its row.
func (p *plan) join(place int, qubits []int) {
	i := p.find(qubits)
	if i == len(p.rows) {
		p.rows = append(p.rows, row{})
	}
	r := &p.rows[i]
	r.wires = r.with(qubits)
	r.places = append(r.places, place)
	for _, q := range qubits {
		p.last[q] = i
	}
}

// find answers the row that a gate on these qubits joins: the first that it fits into, or the one behind all. It looks from the last row on that has one of them: no gate goes ahead of another on its qubits.
func (p *plan) find(qubits []int) int {
	i := p.latest(qubits)
	for i < len(p.rows) && p.rows[i].with(qubits).many() > p.most {
		i++
	}
	return i
}

// latest answers the last row behind the wall that has one of these qubits; if none has, the first one behind it.
func (p *plan) latest(qubits []int) int {
	found := -1
	for _, q := range qubits {
		if i, in := p.last[q]; in {
			found = max(found, i)
		}
	}
	if found < 0 {
		return p.wall
	}
	return found
}
