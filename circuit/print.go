package circuit

import (
	"strconv"
	"strings"

	"phasor/api"
	"phasor/gate"
)

// Print writes a circuit (P8.4).
func Print(c api.Circuit) (string, api.Errno) {
	if _, e := Check(c); e != api.OK {
		return "", e
	}
	lines := []string{`OPENQASM 2.0`, `include "qelib1.inc"`}
	if c.Qubits > 0 {
		lines = append(lines, "qreg "+element("q", c.Qubits))
	}
	if c.Bits > 0 {
		lines = append(lines, "creg "+element("c", c.Bits))
	}
	for _, op := range c.Ops {
		lines = append(lines, written(op))
	}
	return strings.Join(lines, ";\n") + ";\n", api.OK
}

// written is an operation's line without its end.
func written(op api.Op) string {
	qubits := make([]string, len(op.Qubits))
	for i, q := range op.Qubits {
		qubits[i] = element("q", q)
	}
	args := strings.Join(qubits, ", ")
	switch op.Kind {
	case api.OpMeasure:
		return "measure " + args + " -> " + element("c", op.Bit)
	case api.OpReset:
		return "reset " + args
	case api.OpBarrier:
		return "barrier " + args
	}
	call := gate.Name(op.Gate) + " " + args
	if op.If == always {
		return call
	}
	return "if (" + element("c", op.If) + " == " + strconv.Itoa(op.When) + ") " + call
}

func element(register string, i int) string {
	return register + "[" + strconv.Itoa(i) + "]"
}
