package circuit_test

import (
	"math/rand"
	"reflect"
	"strconv"
	"strings"
	"testing"
	"unicode/utf8"

	"phasor/api"
	"phasor/circuit"
)

// Operations in short.

func do(k api.GateKind, qubits ...int) api.Op {
	return api.Op{Kind: api.OpGate, Gate: k, Qubits: qubits, If: -1}
}

func when(bit, value int, op api.Op) api.Op {
	op.If, op.When = bit, value
	return op
}

func measure(qubit, bit int) api.Op {
	return api.Op{Kind: api.OpMeasure, Qubits: []int{qubit}, Bit: bit, If: -1}
}

func reset(qubit int) api.Op {
	return api.Op{Kind: api.OpReset, Qubits: []int{qubit}, If: -1}
}

func barrier(qubits ...int) api.Op {
	return api.Op{Kind: api.OpBarrier, Qubits: qubits, If: -1}
}

func of(qubits, bits int, ops ...api.Op) api.Circuit {
	return api.Circuit{Qubits: qubits, Bits: bits, Ops: ops}
}

// repeated is an operation so many times.
func repeated(n int, op api.Op) []api.Op {
	var l []api.Op
	for range n {
		l = append(l, op)
	}
	return l
}

// gateLine is what chapter 6's table says of a kind.
type gateLine struct {
	name            string
	qubits          int
	halves, outside bool
}

// gateLines has the kinds at their numbers.
func gateLines() []gateLine {
	l := []gateLine{{}}
	for n, names := range []string{"id x y z s sdg sx sxdg sy sydg", "cx cy cz swap iswap iswapdg hh", "ccx ccz cswap"} {
		for _, name := range strings.Fields(names) {
			l = append(l, gateLine{name, n + 1, strings.Contains(" sx sxdg sy sydg hh ", " "+name+" "), n == 2})
		}
	}
	return l
}

// someOp is one that may be in a circuit of at least three qubits.
func someOp(chance *rand.Rand, qubits, bits int) api.Op {
	mixed := chance.Perm(qubits)
	switch {
	case chance.Intn(8) == 0 && bits > 0:
		return measure(mixed[0], chance.Intn(bits))
	case chance.Intn(10) == 0:
		return reset(mixed[0])
	case chance.Intn(10) == 0:
		return barrier(mixed[:1+chance.Intn(qubits)]...)
	}
	k := 1 + chance.Intn(20)
	op := do(api.GateKind(k), mixed[:gateLines()[k].qubits]...)
	if bits > 0 && chance.Intn(3) == 0 {
		return when(chance.Intn(bits), chance.Intn(2), op)
	}
	return op
}

// someCircuit is one that may be.
func someCircuit(chance *rand.Rand) api.Circuit {
	c := of(3+chance.Intn(62), chance.Intn(65))
	if chance.Intn(2) == 0 {
		c = of(3+chance.Intn(3), chance.Intn(3))
	}
	for range chance.Intn(40) {
		c.Ops = append(c.Ops, someOp(chance, c.Qubits, c.Bits))
	}
	return c
}

// deep is a copy by hand.
func deep(c api.Circuit) api.Circuit {
	d := of(c.Qubits, c.Bits)
	for _, op := range c.Ops {
		op.Qubits = append([]int{}, op.Qubits...)
		d.Ops = append(d.Ops, op)
	}
	return d
}

// alike compares by the library's deep comparing; nil and empty lists are the same.
func alike(a, b api.Circuit) bool { return reflect.DeepEqual(deep(a), deep(b)) }

func wantCircuit(t *testing.T, what string, got, wanted api.Circuit) {
	t.Helper()
	if !alike(got, wanted) {
		t.Errorf("%.200s: %.400s, not %.400s", what, tell(got), tell(wanted))
	}
}

// wantNone asks for the zero circuit, all its fields.
func wantNone(t *testing.T, what string, got api.Circuit) {
	t.Helper()
	if got.Qubits != 0 || got.Bits != 0 || len(got.Ops) != 0 {
		t.Errorf("%.200s: beside the error %.400s", what, tell(got))
	}
}

// tell writes a circuit that need not be one.
func tell(c api.Circuit) string {
	var b strings.Builder
	b.WriteString(strconv.Itoa(c.Qubits) + " qubits, " + strconv.Itoa(c.Bits) + " bits")
	for _, op := range c.Ops {
		b.WriteString("; kind " + strconv.Itoa(int(op.Kind)) + ", gate " + strconv.Itoa(int(op.Gate)))
		for _, n := range append(append([]int{}, op.Qubits...), op.Bit, op.If, op.When) {
			b.WriteString(" " + strconv.Itoa(n))
		}
	}
	return b.String()
}

// wantParse holds what a text comes to against a circuit.
func wantParse(t *testing.T, text string, wanted api.Circuit) {
	t.Helper()
	c, f := circuit.Parse(text)
	if f != (api.Fault{}) {
		t.Errorf("%.200s: %+v", text, f)
		return
	}
	wantCircuit(t, text, c, wanted)
}

// wantFault holds the fault of a text against one at the token ahead of which a ^ stands (which is taken out).
func wantFault(t *testing.T, marked string, code api.Errno) {
	t.Helper()
	ahead, behind, ok := strings.Cut(marked, "^")
	if !ok {
		t.Fatalf("no place in %.200s", marked)
	}
	c, f := circuit.Parse(ahead + behind)
	if wanted := (api.Fault{Code: code, At: spot(ahead)}); f != wanted {
		t.Errorf("%.200s: %+v, not %+v", marked, f, wanted)
	}
	wantNone(t, marked, c)
}

// spot is that of the end of a text.
func spot(ahead string) api.Spot {
	return api.Spot{Off: len(ahead), Line: 1 + strings.Count(ahead, "\n"), Col: 1 + utf8.RuneCountInString(ahead[strings.LastIndex(ahead, "\n")+1:])}
}
