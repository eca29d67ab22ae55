package circuit_test

import (
	"math/rand"
	"strconv"
	"strings"
	"testing"

	"phasor/api"
	"phasor/circuit"
)

func wantPrint(t *testing.T, c api.Circuit, lines ...string) {
	t.Helper()
	kept := deep(c)
	wanted := strings.Join(append([]string{`OPENQASM 2.0;`, `include "qelib1.inc";`}, lines...), "\n") + "\n"
	if s, e := circuit.Print(c); s != wanted || e != api.OK {
		t.Errorf("%.400s: %.400q %d, not %.400q", tell(c), s, e, wanted)
	}
	wantCircuit(t, "what was handed in", c, kept)
}

// P8.4: by hand.
func TestPrintByHand(t *testing.T) {
	wantPrint(t, api.Circuit{})
	wantPrint(t, of(1, 0), "qreg q[1];")
	wantPrint(t, of(0, 64), "creg c[64];")
	wantPrint(t, of(64, 1), "qreg q[64];", "creg c[1];")
	wantPrint(t, of(4, 3, do(api.GateI, 3), do(api.GateCX, 2, 0), do(api.GateCSw, 1, 3, 0), when(2, 0, do(api.GateWdg, 0)), when(0, 1, do(api.GateHH, 1, 2)), measure(3, 2), reset(0), barrier(2), barrier(3, 1, 0)),
		"qreg q[4];", "creg c[3];", "id q[3];", "cx q[2], q[0];", "cswap q[1], q[3], q[0];", "if (c[2] == 0) sydg q[0];", "if (c[0] == 1) hh q[1], q[2];", "measure q[3] -> c[2];", "reset q[0];", "barrier q[2];", "barrier q[3], q[1], q[0];")
}

// lineOf is an operation's line, put together otherwise.
func lineOf(op api.Op) string {
	s := ""
	for _, q := range op.Qubits {
		s += ", q[" + strconv.Itoa(q) + "]"
	}
	s = s[2:] + ";"
	switch op.Kind {
	case api.OpGate:
		s = gateLines()[op.Gate].name + " " + s
	case api.OpMeasure:
		s = "measure " + strings.TrimSuffix(s, ";") + " -> c[" + strconv.Itoa(op.Bit) + "];"
	case api.OpReset:
		s = "reset " + s
	case api.OpBarrier:
		s = "barrier " + s
	}
	if op.If >= 0 {
		s = "if (c[" + strconv.Itoa(op.If) + "] == " + strconv.Itoa(op.When) + ") " + s
	}
	return s
}

// P8.4: of any circuits that may be.
func TestPrint(t *testing.T) {
	chance := rand.New(rand.NewSource(806))
	for range 1500 {
		c := someCircuit(chance)
		lines := []string{"qreg q[" + strconv.Itoa(c.Qubits) + "];"}
		if c.Bits > 0 {
			lines = append(lines, "creg c["+strconv.Itoa(c.Bits)+"];")
		}
		for _, op := range c.Ops {
			lines = append(lines, lineOf(op))
		}
		wantPrint(t, c, lines...)
	}
	full := of(64, 0, repeated(4096, do(api.GateCCZ, 61, 62, 63))...)
	lines := strings.Split("qreg q[64];"+strings.Repeat("\nccz q[61], q[62], q[63];", 4096), "\n")
	wantPrint(t, full, lines...)
}

// P8.4: what may not be is not written.
func TestPrintRefuses(t *testing.T) {
	for _, c := range wrongs() {
		if s, e := circuit.Print(c); s != "" || e != api.ErrCircuit {
			t.Errorf("%.200s: %.200q %d", tell(c), s, e)
		}
	}
}

// wrongs are circuits that may not be.
func wrongs() []api.Circuit {
	x := do(api.GateX, 0)
	return []api.Circuit{
		of(-1, 0), of(65, 0), of(0, -1), of(0, 65),
		of(1, 0, repeated(4097, x)...),
		of(0, 0, x), of(1, 0, api.Op{}), of(1, 0, do(0, 0)), of(1, 0, do(21, 0)), of(2, 0, do(api.GateCX, 0)), of(2, 0, do(api.GateCX, 1, 1)),
		of(1, 0, x, when(0, 0, x)), of(1, 1, when(0, 2, x)), of(1, 1, when(-1, 1, x)), of(1, 1, when(-2, 0, x)),
		of(1, 1, measure(0, 1)), of(1, 1, measure(1, 0)), of(1, 1, when(0, 0, measure(0, 0))),
		of(2, 1, reset(2)), of(2, 1, when(0, 1, reset(0))), of(2, 1, barrier()), of(2, 1, barrier(0, 0)), of(2, 1, barrier(0, 2)), of(2, 1, when(0, 0, barrier(0))),
		of(1, 2, api.Op{Kind: api.OpGate, Gate: api.GateX, Qubits: []int{0}, Bit: 1, If: -1}),
		of(1, 2, api.Op{Kind: api.OpMeasure, Gate: api.GateX, Qubits: []int{0}, If: -1}),
	}
}
