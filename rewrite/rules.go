package rewrite

import (
	"slices"

	"phasor/api"
	"phasor/gate"
)

// rule is used, if it may be, about the gate without a condition at a place. It answers the least place that it changed, and whether it was used.
type rule func(b *bench, at int) (int, bool)

// drop is rule 1: id is taken out.
func drop(b *bench, at int) (int, bool) {
	if b.op(at).Gate != api.GateI {
		return 0, false
	}
	b.gone[at] = true
	return at, true
}

// undo is rule 2: a gate and the one that it undoes are taken out.
func undo(b *bench, at int) (int, bool) {
	ahead := b.partner(at)
	if ahead < 0 || !undone(b.op(ahead), b.op(at)) {
		return 0, false
	}
	b.gone[ahead], b.gone[at] = true, true
	return ahead, true
}

// joining answers rule 3: two gates on the same list become one. It keeps what it has reckoned: there are few pairs of kinds.
func joining() rule {
	known := map[pair]composed{}
	return func(b *bench, at int) (int, bool) {
		ahead := b.partner(at)
		if ahead < 0 || !plain(b.op(ahead)) || !slices.Equal(b.op(ahead).Qubits, b.op(at).Qubits) {
			return 0, false
		}
		p := pair{b.op(ahead).Gate, b.op(at).Gate}
		if _, ok := known[p]; !ok {
			k, is := gate.Compose(p.first, p.then)
			known[p] = composed{k, is}
		}
		if !known[p].is {
			return 0, false
		}
		b.op(ahead).Gate = known[p].kind
		b.gone[at] = true
		return ahead, true
	}
}

// pair is the kinds of two gates, one behind the other.
type pair struct {
	first, then api.GateKind
}

// composed is the kind that two gates are together, if they are one.
type composed struct {
	kind api.GateKind
	is   bool
}

// undone tells whether the first operation is a gate without a condition that the second, which is one, undoes.
func undone(first, then *api.Op) bool {
	return plain(first) && first.Gate == gate.Inverse(then.Gate) && listed(first) == listed(then)
}

// free has at each kind's number from which to below which of its qubits the order does not matter; a kind and its inverse have the same.
var free = [...][2]int{
	api.GateCZ:   {0, 2},
	api.GateSwap: {0, 2},
	api.GateISw:  {0, 2},
	api.GateISwd: {0, 2},
	api.GateHH:   {0, 2},
	api.GateCCX:  {0, 2},
	api.GateCCZ:  {0, 3},
	api.GateCSw:  {1, 3},
}

// listed answers a gate's qubits, those whose order does not matter rising. Gates of one kind are on the same qubits if these are alike.
func listed(op *api.Op) [3]int {
	var l [3]int
	copy(l[:], op.Qubits)
	part := free[op.Gate]
	slices.Sort(l[part[0]:part[1]])
	return l
}

// nearest is the stop of a partner: what touches.
func nearest(b *bench, ahead, at int) bool { return b.touches(ahead, at) }

// farther answers the stop of a partner that is looked for past what commutes. It keeps what it has reckoned: there are few ways in which two gates meet.
func farther() stop {
	known := map[meeting]commuting{}
	return func(b *bench, ahead, at int) bool {
		if !b.touches(ahead, at) {
			return false
		}
		first, then := b.op(ahead), b.op(at)
		if !plain(first) || undone(first, then) {
			return true
		}
		m := met(first, then)
		if _, ok := known[m]; !ok {
			is, _ := gate.Commute(first.Gate, first.Qubits, then.Gate, then.Qubits)
			known[m] = commuting{is}
		}
		return !known[m].is
	}
}

// meeting is how two gates meet: their kinds, and at which of the second one's qubits each of the first one's stands, -1 at none.
type meeting struct {
	pair
	at [3]int
}

type commuting struct {
	is bool
}

func met(first, then *api.Op) meeting {
	m := meeting{pair: pair{first.Gate, then.Gate}}
	for i, q := range first.Qubits {
		m.at[i] = slices.Index(then.Qubits, q)
	}
	return m
}
