package rewrite

import (
	"slices"

	"phasor/api"
	"phasor/circuit"
)

// Expand writes gates by fewer kinds (P18.4).
func Expand(c api.Circuit) (api.Circuit, api.Errno) {
	if _, e := circuit.Check(c); e != api.OK {
		return api.Circuit{}, e
	}
	var p pen
	for _, op := range c.Ops {
		p.like = op
		p.expand(op.Gate, op.Qubits)
	}
	if len(p.ops) > api.MaxOps {
		return api.Circuit{}, api.ErrRewrite
	}
	return api.Circuit{Qubits: c.Qubits, Bits: c.Bits, Ops: p.ops}, api.OK
}

// pen writes operations one behind the other, each like another but for its gate and its qubits.
type pen struct {
	like api.Op
	ops  []api.Op
}

func (p *pen) write(k api.GateKind, qubits ...int) {
	op := p.like
	op.Gate, op.Qubits = k, slices.Clone(qubits)
	p.ops = append(p.ops, op)
}

// expand writes a gate by others, if its kind is written so. What is no gate has the kind 0.
func (p *pen) expand(k api.GateKind, qubits []int) {
	switch k {
	case api.GateCY, api.GateCZ, api.GateSwap, api.GateISw, api.GateISwd, api.GateHH:
		p.two(k, qubits[0], qubits[1])
	case api.GateCCZ, api.GateCSw:
		p.three(k, qubits[0], qubits[1], qubits[2])
	default:
		p.write(k, qubits...)
	}
}

func (p *pen) two(k api.GateKind, t, u int) {
	switch k {
	case api.GateCY:
		p.write(api.GateSdg, u)
		p.write(api.GateCX, t, u)
		p.write(api.GateS, u)
	case api.GateCZ:
		p.write(api.GateW, u)
		p.write(api.GateCX, t, u)
		p.write(api.GateWdg, u)
	case api.GateSwap:
		p.write(api.GateCX, t, u)
		p.write(api.GateCX, u, t)
		p.write(api.GateCX, t, u)
	case api.GateISw:
		p.write(api.GateS, t)
		p.write(api.GateS, u)
		p.two(api.GateCZ, t, u)
		p.two(api.GateSwap, t, u)
	case api.GateISwd:
		p.two(api.GateSwap, t, u)
		p.two(api.GateCZ, t, u)
		p.write(api.GateSdg, t)
		p.write(api.GateSdg, u)
	case api.GateHH:
		p.write(api.GateS, t)
		p.write(api.GateV, t)
		p.write(api.GateS, t)
		p.write(api.GateSdg, u)
		p.write(api.GateVdg, u)
		p.write(api.GateSdg, u)
	}
}

func (p *pen) three(k api.GateKind, t, u, v int) {
	switch k {
	case api.GateCCZ:
		p.write(api.GateW, v)
		p.write(api.GateCCX, t, u, v)
		p.write(api.GateWdg, v)
	case api.GateCSw:
		p.write(api.GateCX, v, u)
		p.write(api.GateCCX, t, u, v)
		p.write(api.GateCX, v, u)
	}
}
