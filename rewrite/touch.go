package rewrite

import "phasor/api"

// always is If of what has no condition.
const always = -1

// Touch tells whether two operations may not change places (P18.1).
func Touch(a, b api.Op) bool { return common(a.Qubits, b.Qubits) || bound(&a, &b) }

// common tells whether two lists, of any length, have a number in common.
func common(a, b []int) bool {
	in := make(map[int]struct{}, len(a))
	for _, q := range a {
		in[q] = struct{}{}
	}
	for _, q := range b {
		if _, ok := in[q]; ok {
			return true
		}
	}
	return false
}

// bound tells whether two operations touch whatever their qubits are.
func bound(a, b *api.Op) bool {
	return numbered(a) && numbered(b) || decides(a, b) || decides(b, a)
}

// numbered tells whether an operation takes a number of a run.
func numbered(op *api.Op) bool { return op.Kind == api.OpMeasure || op.Kind == api.OpReset }

// decides tells whether an operation measures into the bit that is another's condition.
func decides(op, other *api.Op) bool {
	return op.Kind == api.OpMeasure && other.If != always && op.Bit == other.If
}

// plain tells whether an operation is a gate without a condition.
func plain(op *api.Op) bool { return op.Kind == api.OpGate && op.If == always }

// wires answers the qubits of an operation that may be, each as a bit.
func wires(op *api.Op) uint64 {
	var set uint64
	for _, q := range op.Qubits {
		set |= 1 << q
	}
	return set
}
