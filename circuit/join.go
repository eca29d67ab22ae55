package circuit

import (
	"slices"

	"phasor/api"
)

// Append puts one circuit behind another (P8.5).
func Append(a, b api.Circuit) (api.Circuit, api.Errno) {
	_, first := Check(a)
	_, second := Check(b)
	if first != api.OK || second != api.OK || len(a.Ops)+len(b.Ops) > api.MaxOps {
		return api.Circuit{}, api.ErrCircuit
	}
	return api.Circuit{
		Qubits: max(a.Qubits, b.Qubits),
		Bits:   max(a.Bits, b.Bits),
		Ops:    append(copyOps(a.Ops), copyOps(b.Ops)...),
	}, api.OK
}

// Embed puts a circuit on other qubits and bits (P8.5).
func Embed(c api.Circuit, qubits, bits []int, n, m int) (api.Circuit, api.Errno) {
	if _, e := Check(c); e != api.OK {
		return api.Circuit{}, e
	}
	fit := len(qubits) == c.Qubits && len(bits) == c.Bits
	if !fit || !countsMayBe(n, m) || !apart(qubits, n) || !apart(bits, m) {
		return api.Circuit{}, api.ErrArg
	}
	ops := renumbered(c.Ops, func(q int) int { return qubits[q] }, func(b int) int { return bits[b] })
	return api.Circuit{Qubits: n, Bits: m, Ops: ops}, api.OK
}

// Compact leaves out the qubits and bits that nothing uses (P8.7).
func Compact(c api.Circuit) (api.Circuit, []int, []int, api.Errno) {
	if _, e := Check(c); e != api.OK {
		return api.Circuit{}, nil, nil, e
	}
	qubits, bits := used(c.Ops)
	ops := renumbered(c.Ops, func(q int) int { return slices.Index(qubits, q) }, func(b int) int { return slices.Index(bits, b) })
	return api.Circuit{Qubits: len(qubits), Bits: len(bits), Ops: ops}, qubits, bits, api.OK
}

// renumbered answers operations that may be with other numbers for their qubits and bits.
func renumbered(ops []api.Op, qubit, bit func(int) int) []api.Op {
	l := copyOps(ops)
	for i := range l {
		op := &l[i]
		for k, q := range op.Qubits {
			op.Qubits[k] = qubit(q)
		}
		// The Bit of what does not measure is no bit's number.
		if op.Kind == api.OpMeasure {
			op.Bit = bit(op.Bit)
		}
		if op.If != always {
			op.If = bit(op.If)
		}
	}
	return l
}

// used answers which qubits and which bits operations that may be have, both rising.
func used(ops []api.Op) ([]int, []int) {
	var qubits, bits []int
	for _, op := range ops {
		qubits = append(qubits, op.Qubits...)
		if op.Kind == api.OpMeasure {
			bits = append(bits, op.Bit)
		}
		if op.If != always {
			bits = append(bits, op.If)
		}
	}
	return rising(qubits), rising(bits)
}

// rising sorts numbers and leaves each of them once.
func rising(l []int) []int {
	slices.Sort(l)
	return slices.Compact(l)
}
