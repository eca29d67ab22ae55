package run

import (
	"iter"
	"maps"
	"slices"

	"phasor/api"
	"phasor/state"
)

// mostTallied is how many measurements and resets a circuit may have whose bits are tallied.
const mostTallied = 12

// Branches goes through all ways that measurements may come out (P12.6).
func Branches(c api.Circuit) iter.Seq[api.Branch] {
	m, e := New(c)
	if e != api.OK {
		return func(func(api.Branch) bool) {}
	}
	return m.branches()
}

// Tally answers the weight of each row of bits (P12.8).
func Tally(c api.Circuit) ([]api.Count, api.Errno) {
	m, e := New(c)
	if e != api.OK {
		return nil, e
	}
	if m.measurements() > mostTallied {
		return nil, api.ErrRun
	}
	sums := map[uint64]float64{}
	for b := range m.branches() {
		sums[number(b.Bits)] += b.Weight
	}
	var l []api.Count
	for _, n := range slices.Sorted(maps.Keys(sums)) {
		l = append(l, api.Count{Bits: row(n, c.Bits), Weight: sums[n]})
	}
	return l, api.OK
}

// branches goes through all that a machine may come to from where it stands, and leaves the machine there. It goes down, by calling itself, where there are two ways; the last one is gone on with in the same loop, so that a row of sure measurements is no way down.
func (m *Machine) branches() iter.Seq[api.Branch] {
	return func(yield func(api.Branch) bool) {
		k := m.fork()
		for !k.ended() {
			ways := k.ways()
			if len(ways) == 0 {
				return
			}
			last := len(ways) - 1
			for _, o := range ways[:last] {
				side := k.fork()
				side.do(o)
				for b := range side.branches() {
					if !yield(b) {
						return
					}
				}
			}
			k.do(ways[last])
		}
		yield(k.branch())
	}
}

// ways answers the outcomes that the operation that comes next may have: what does not measure has one, which is not looked at.
func (m *Machine) ways() []api.Outcome {
	op, d := m.next()
	if !d.measures {
		return make([]api.Outcome, 1)
	}
	var l []api.Outcome
	o := m.weigh(op)
	for value, weight := range [2]float64{o.Zero, o.One} {
		if weight > 0 {
			o.Value = value
			l = append(l, o)
		}
	}
	return l
}

// branch answers what a machine at its end has come to.
func (m *Machine) branch() api.Branch {
	values := make([]int, len(m.log))
	for i, o := range m.log {
		values[i] = o.Value
	}
	weight, _ := state.Weight(m.state)
	return api.Branch{Values: values, Weight: weight, Bits: m.Bits(), State: m.State()}
}

// measurements counts the operations that come to an outcome.
func (m *Machine) measurements() int {
	n, deeds := 0, m.deeds()
	for _, op := range m.circuit.Ops {
		if deeds[op.Kind].measures {
			n++
		}
	}
	return n
}

// number answers the number whose bit i is bits[i]; row answers so many bits of a number.
func number(bits []int) uint64 {
	n := uint64(0)
	for i, b := range bits {
		n |= uint64(b) << i
	}
	return n
}

func row(n uint64, bits int) []int {
	l := make([]int, bits)
	for i := range l {
		l[i] = int(n >> i & 1)
	}
	return l
}
