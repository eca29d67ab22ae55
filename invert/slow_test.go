package invert_test

import (
	"strings"
	"testing"

	"phasor/api"
	"phasor/gate"
)

// The chapter written a second time, by the gates' names.

func name(k api.GateKind) string { return gate.Name(k) }

func kind(t *testing.T, name string) api.GateKind {
	t.Helper()
	k, e := gate.Of(name)
	if e != api.OK {
		t.Fatal("no gate:", name)
	}
	return k
}

// fresh is an operation with another gate, on other qubits.
func fresh(op api.Op, k api.GateKind, qubits ...int) api.Op {
	op.Gate, op.Qubits = k, append([]int(nil), qubits...)
	return op
}

// slowInverse is P17.1, of a circuit that is unitary.
func slowInverse(t *testing.T, c api.Circuit) api.Circuit {
	t.Helper()
	d := of(c.Qubits, c.Bits)
	for i := len(c.Ops) - 1; i >= 0; i-- {
		op := c.Ops[i]
		if op.Kind == api.OpGate {
			op.Gate = kind(t, turnedName(name(op.Gate)))
		}
		d.Ops = append(d.Ops, fresh(op, op.Gate, op.Qubits...))
	}
	return d
}

// turnedName has dg behind a name of those that have an inverse of another kind, or has it no more.
func turnedName(s string) string {
	root, is := strings.CutSuffix(s, "dg")
	switch {
	case is:
		return root
	case strings.Contains(" s sx sy iswap ", " "+s+" "):
		return s + "dg"
	}
	return s
}

// slowConj is P17.2, however long it comes.
func slowConj(t *testing.T, c api.Circuit) api.Circuit {
	t.Helper()
	d := of(c.Qubits, c.Bits)
	for _, op := range c.Ops {
		if op.Kind != api.OpGate {
			d.Ops = append(d.Ops, fresh(op, 0, op.Qubits...))
			continue
		}
		for i, s := range strings.Fields(conjRow(name(op.Gate))) {
			if i == 0 {
				d.Ops = append(d.Ops, fresh(op, kind(t, s), op.Qubits...))
			} else {
				d.Ops = append(d.Ops, fresh(op, kind(t, s), op.Qubits[0]))
			}
		}
	}
	return d
}

// conjRow is the chapter's table.
func conjRow(s string) string {
	switch s {
	case "s", "sdg", "sx", "sxdg", "iswap", "iswapdg":
		return turnedName(s)
	case "y":
		return "y x z x z"
	case "sy":
		return "sy z x y"
	case "sydg":
		return "sydg y x z"
	case "cy":
		return "cy z"
	}
	return s
}

// slowPower is P17.3, of what may be repeated so.
func slowPower(t *testing.T, c api.Circuit, k int) api.Circuit {
	t.Helper()
	one := c
	if k < 0 {
		one, k = slowInverse(t, c), -k
	}
	d := of(c.Qubits, c.Bits)
	for range k {
		d.Ops = append(d.Ops, deep(one).Ops...)
	}
	return d
}

// slowMirror is P17.3, however long it comes.
func slowMirror(t *testing.T, c api.Circuit) api.Circuit {
	t.Helper()
	return of(c.Qubits, c.Bits, behind(deep(c).Ops, slowInverse(t, c).Ops)...)
}

// slowControl is P17.4, of what may be controlled.
func slowControl(t *testing.T, c api.Circuit) api.Circuit {
	t.Helper()
	d := of(c.Qubits+1, c.Bits)
	for _, op := range c.Ops {
		if op.Kind == api.OpBarrier || op.Gate == api.GateI {
			d.Ops = append(d.Ops, fresh(op, op.Gate, op.Qubits...))
			continue
		}
		k := kind(t, "c"+name(op.Gate))
		d.Ops = append(d.Ops, fresh(op, k, append([]int{c.Qubits}, op.Qubits...)...))
	}
	return d
}
