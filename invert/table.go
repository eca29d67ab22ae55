package invert

import (
	"slices"

	"phasor/api"
	"phasor/gate"
)

// conjugates has at each kind's number what stands in its conjugate's place, one behind the other; 0 is that nothing more does.
var conjugates = [...][5]api.GateKind{
	api.GateI:    {api.GateI},
	api.GateX:    {api.GateX},
	api.GateY:    {api.GateY, api.GateX, api.GateZ, api.GateX, api.GateZ},
	api.GateZ:    {api.GateZ},
	api.GateS:    {api.GateSdg},
	api.GateSdg:  {api.GateS},
	api.GateV:    {api.GateVdg},
	api.GateVdg:  {api.GateV},
	api.GateW:    {api.GateW, api.GateZ, api.GateX, api.GateY},
	api.GateWdg:  {api.GateWdg, api.GateY, api.GateX, api.GateZ},
	api.GateCX:   {api.GateCX},
	api.GateCY:   {api.GateCY, api.GateZ},
	api.GateCZ:   {api.GateCZ},
	api.GateSwap: {api.GateSwap},
	api.GateISw:  {api.GateISwd},
	api.GateISwd: {api.GateISw},
	api.GateHH:   {api.GateHH},
	api.GateCCX:  {api.GateCCX},
	api.GateCCZ:  {api.GateCCZ},
	api.GateCSw:  {api.GateCSw},
}

// controlled has at each kind's number the kind that does the same under a control; 0 is that there is none, and what is not written is 0. id does nothing, and needs none.
var controlled = [...]api.GateKind{
	api.GateI:    api.GateI,
	api.GateX:    api.GateCX,
	api.GateY:    api.GateCY,
	api.GateZ:    api.GateCZ,
	api.GateCX:   api.GateCCX,
	api.GateCZ:   api.GateCCZ,
	api.GateSwap: api.GateCSw,
	api.GateCSw:  0, // so that each kind has a place
}

// conjugate answers what takes the place of an operation that may be.
func conjugate(op api.Op) []api.Op {
	if op.Kind != api.OpGate {
		return []api.Op{with(op, op.Gate, op.Qubits)}
	}
	var l []api.Op
	for _, k := range conjugates[op.Gate] {
		if k != 0 {
			// The z behind cy has its first qubit alone; all others have the gate's own.
			l = append(l, with(op, k, op.Qubits[:gate.Arity(k)]))
		}
	}
	return l
}

// uncontrolled tells whether an operation is a gate that no kind does under a control.
func uncontrolled(op api.Op) bool {
	return op.Kind == api.OpGate && controlled[op.Gate] == 0
}

// under answers a barrier, or a gate that there is under a control, with this one. What is its own kind there, as the 0 of a barrier, is as it was.
func under(control int, op api.Op) api.Op {
	k := controlled[op.Gate]
	if k == op.Gate {
		return with(op, k, op.Qubits)
	}
	return with(op, k, append([]int{control}, op.Qubits...))
}

// with answers an operation that is another gate, on a list of qubits of its own.
func with(op api.Op, k api.GateKind, qubits []int) api.Op {
	op.Gate, op.Qubits = k, slices.Clone(qubits)
	return op
}
