package fuse

import (
	"phasor/api"
	"phasor/run"
)

// always is If of what has no condition.
const always = -1

// Run runs a circuit, fused as far as may be (P16.4).
func Run(c api.Circuit, k int, us []float64) (api.Result, api.Errno) {
	m, e := run.New(c)
	if e != api.OK {
		return api.Result{}, e
	}
	if !mayFuse(k) {
		return api.Result{}, api.ErrFuse
	}
	x := api.Result{State: m.State(), Bits: m.Bits()}
	for at := 0; at < len(c.Ops); {
		part := api.Circuit{Qubits: c.Qubits, Bits: c.Bits, Ops: stretch(c.Ops[at:])}
		if fuses(c.Ops[at]) {
			x.State = fused(x.State, part, k)
		} else if x, e = plain(x, part, at, us); e != api.OK {
			return api.Result{}, e
		}
		at += len(part.Ops)
	}
	return x, api.OK
}

// stretch answers the longest row at the beginning of operations all of which fuse, or none.
func stretch(ops []api.Op) []api.Op {
	for i, op := range ops {
		if fuses(op) != fuses(ops[0]) {
			return ops[:i]
		}
	}
	return ops
}

// fuses tells whether an operation is a barrier, or a gate without a condition.
func fuses(op api.Op) bool {
	return op.Kind == api.OpBarrier || op.Kind == api.OpGate && op.If == always
}

// fused answers what a part that is of such operations alone makes of a state. It is a checked circuit's, so that nothing is refused.
func fused(s []complex128, part api.Circuit, k int) []complex128 {
	blocks, _ := Blocks(part, k)
	s, _, _ = Apply(s, blocks)
	return s
}

// plain goes on through a part, which begins at a place of the whole, as layer 12 does.
func plain(x api.Result, part api.Circuit, at int, us []float64) (api.Result, api.Errno) {
	m, e := run.From(part, x.State, x.Bits)
	if e != api.OK {
		return api.Result{}, e
	}
	used, e := m.Run(us[x.Used:])
	if e != api.OK {
		return api.Result{}, e
	}
	log := x.Log
	for _, o := range m.Log() {
		o.Op += at
		log = append(log, o)
	}
	return api.Result{State: m.State(), Bits: m.Bits(), Log: log, Used: x.Used + used}, api.OK
}
