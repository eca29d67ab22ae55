package circuit

import (
	"slices"

	"phasor/api"
	"phasor/gate"
)

// Same tells whether two circuits are one (P8.2).
func Same(a, b api.Circuit) bool {
	return a.Qubits == b.Qubits && a.Bits == b.Bits && slices.EqualFunc(a.Ops, b.Ops, sameOp)
}

func sameOp(a, b api.Op) bool {
	return a.Kind == b.Kind && a.Gate == b.Gate && slices.Equal(a.Qubits, b.Qubits) && a.Bit == b.Bit && a.If == b.If && a.When == b.When
}

// Copy answers a copy (P8.2).
func Copy(c api.Circuit) api.Circuit {
	c.Ops = copyOps(c.Ops)
	return c
}

func copyOps(ops []api.Op) []api.Op {
	l := make([]api.Op, len(ops))
	for i, op := range ops {
		l[i] = op
		l[i].Qubits = slices.Clone(op.Qubits)
	}
	return l
}

// Halves counts halving gates (P8.2).
func Halves(c api.Circuit) int {
	n := 0
	for _, op := range c.Ops {
		if op.Kind == api.OpGate && gate.Halving(op.Gate) {
			n++
		}
	}
	return n
}

// Counts counts gates by their kinds (P8.2).
func Counts(c api.Circuit) []int {
	l := make([]int, 1+len(gate.Kinds()))
	for _, op := range c.Ops {
		if op.Kind == api.OpGate && gate.Arity(op.Gate) > 0 {
			l[op.Gate]++
		}
	}
	return l
}

// Unitary tells whether a circuit has but gates, and barriers (P8.2).
func Unitary(c api.Circuit) bool {
	return !slices.ContainsFunc(c.Ops, func(op api.Op) bool {
		return op.Kind != api.OpBarrier && (op.Kind != api.OpGate || op.If != always)
	})
}

// Clifford tells whether all its gates are Clifford gates (P8.2).
func Clifford(c api.Circuit) bool {
	return !slices.ContainsFunc(c.Ops, func(op api.Op) bool {
		return op.Kind == api.OpGate && !gate.Clifford(op.Gate)
	})
}
