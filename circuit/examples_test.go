package circuit_test

import (
	"slices"
	"testing"

	"phasor/api"
	"phasor/circuit"
)

// The chapter's examples, as they stand there.

func TestExampleOne(t *testing.T) {
	wantParse(t, "OPENQASM 2.0; qreg a[2]; qreg b[1]; creg c[2]; x a; cx a[0], b[0]; if (c[1] == 1) s b; measure a -> c;",
		of(3, 2, do(api.GateX, 0), do(api.GateX, 1), do(api.GateCX, 0, 2), when(1, 1, do(api.GateS, 2)), measure(0, 0), measure(1, 1)))
}

func TestExampleTwo(t *testing.T) {
	const head = "OPENQASM 2.0; qreg a[2]; qreg b[1]; creg c[2]; "
	wantParse(t, head+"gate bell p, r { sy p; cx p, r; } bell a[1], b[0];", of(3, 2, do(api.GateW, 1), do(api.GateCX, 1, 2)))
	wantFault(t, head+"^cx a, b;", api.ErrCall)
	wantFault(t, head+"^cx a[0], a[0];", api.ErrCall)
	wantFault(t, head+"x ^d;", api.ErrUnknown)
	wantFault(t, head+"^h a;", api.ErrUnknown)
	wantFault(t, head+"x a[^2];", api.ErrRange)
	wantFault(t, head+"qreg ^a[1];", api.ErrTwice)
}

func TestExampleThree(t *testing.T) {
	c, qubits, bits, e := circuit.Compact(of(4, 2, do(api.GateX, 2), measure(2, 1)))
	wantCircuit(t, "Compact", c, of(1, 1, do(api.GateX, 0), measure(0, 0)))
	if !slices.Equal(qubits, []int{2}) || !slices.Equal(bits, []int{1}) || e != api.OK {
		t.Error(qubits, bits, e)
	}
}

func TestExampleFour(t *testing.T) {
	wantFault(t, "OPENQASM ^3.0;", api.ErrSyntax)
	wantFault(t, "^", api.ErrSyntax)
}
