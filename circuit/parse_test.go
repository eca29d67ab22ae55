package circuit_test

import (
	"strconv"
	"strings"
	"testing"

	"phasor/api"
	"phasor/circuit"
)

const head = "OPENQASM 2.0; "

// ab declares qubits 0 to 2 as a, 3 to 5 as b, 6 and 7 as d; bits 0 to 2 as m, 3 and 4 as n.
const ab = head + "qreg a[3]; creg m[3]; qreg b[3]; creg n[2]; qreg d[2]; "

func wantOps(t *testing.T, behind string, ops ...api.Op) {
	t.Helper()
	wantParse(t, ab+behind, of(8, 5, ops...))
}

// P8.3: registers stand one behind the other, wherever they are declared.
func TestParseRegisters(t *testing.T) {
	wantParse(t, "OPENQASM 2.0;", api.Circuit{})
	wantParse(t, head+"qreg q[1];", of(1, 0))
	wantParse(t, head+"creg q[1];", of(0, 1))
	wantParse(t, head+"qreg q[64]; creg c[64];", of(64, 64))
	wantParse(t, head+"qreg q[64]; x q[63];", of(64, 0, do(api.GateX, 63)))
	wantParse(t, head+"creg c[63]; qreg q[1]; creg d[1]; measure q[0] -> d[0];", of(1, 64, measure(0, 63)))
	wantParse(t, head+"qreg a[2]; x a[1]; qreg b[2]; x b[0]; creg c[1]; creg e[3]; measure b[1] -> e[2];", of(4, 4, do(api.GateX, 1), do(api.GateX, 2), measure(3, 3)))
	text := head
	var wanted api.Circuit
	for i := range 64 {
		text += "qreg q" + strconv.Itoa(i) + "[1]; creg c" + strconv.Itoa(i) + "[1]; measure q" + strconv.Itoa(i) + "[0] -> c" + strconv.Itoa(i) + "[0]; "
		wanted = of(i+1, i+1, append(wanted.Ops, measure(i, i))...)
		wantParse(t, text, wanted)
	}
	wantFault(t, text+"qreg more[^1];", api.ErrRange)
	wantFault(t, text+"creg more[^1];", api.ErrRange)
}

// P8.3: the include may stand anywhere, as often as one likes, or nowhere.
func TestParseIncludes(t *testing.T) {
	const include = `include "qelib1.inc"; `
	wantParse(t, head+include, api.Circuit{})
	wantParse(t, head+include+include+"qreg a[1]; "+include+"x a; "+include, of(1, 0, do(api.GateX, 0)))
	wantParse(t, `OPENQASM 2.0;include"qelib1.inc";`, api.Circuit{})
}

// P8.3: all gates by their names.
func TestParseGates(t *testing.T) {
	for k, line := range gateLines() {
		if k == 0 {
			continue
		}
		qubits := []int{7, 0, 4}[:line.qubits]
		args := strings.Join([]string{"d[1]", "a[0]", "b[1]"}[:line.qubits], ", ")
		op := do(api.GateKind(k), qubits...)
		wantOps(t, line.name+" "+args+";", op)
		wantOps(t, "if (n[1] == 0) "+line.name+" "+args+";", when(4, 0, op))
		wantOps(t, "if(m[2]==1)"+line.name+" "+args+";", when(2, 1, op))
	}
}

// P8.3: whole registers are rows of calls, elements stay what they are.
func TestParseRowsOfCalls(t *testing.T) {
	x, cx, ccx := api.GateX, api.GateCX, api.GateCCX
	wantOps(t, "x a;", do(x, 0), do(x, 1), do(x, 2))
	wantOps(t, "cx a, b;", do(cx, 0, 3), do(cx, 1, 4), do(cx, 2, 5))
	wantOps(t, "cx b, a;", do(cx, 3, 0), do(cx, 4, 1), do(cx, 5, 2))
	wantOps(t, "cx a[1], b;", do(cx, 1, 3), do(cx, 1, 4), do(cx, 1, 5))
	wantOps(t, "cx d, a[2];", do(cx, 6, 2), do(cx, 7, 2))
	wantOps(t, "ccx a, d[0], b;", do(ccx, 0, 6, 3), do(ccx, 1, 6, 4), do(ccx, 2, 6, 5))
	wantOps(t, "ccx d[1], a[0], d[0];", do(ccx, 7, 0, 6))
	wantOps(t, "if (m[0] == 1) cx a[1], d;", when(0, 1, do(cx, 1, 6)), when(0, 1, do(cx, 1, 7)))
	wantParse(t, head+"qreg a[1]; qreg b[1]; qreg c[2]; cx a, b; cx a, b[0]; cx a, c[1]; cx c, b[0];", of(4, 0, do(cx, 0, 1), do(cx, 0, 1), do(cx, 0, 3), do(cx, 2, 1), do(cx, 3, 1)))
	wide := of(64, 0)
	for q := range 32 {
		wide.Ops = append(wide.Ops, do(cx, q, 32+q))
	}
	wantParse(t, head+"qreg a[32]; qreg b[32]; cx a, b;", wide)
}

// P8.3: measure, reset, barrier.
func TestParseActions(t *testing.T) {
	wantOps(t, "measure b[2] -> n[1];", measure(5, 4))
	wantOps(t, "measure b -> m;", measure(3, 0), measure(4, 1), measure(5, 2))
	wantOps(t, "measure d -> n;", measure(6, 3), measure(7, 4))
	wantOps(t, "reset d;", reset(6), reset(7))
	wantOps(t, "reset b[1];", reset(4))
	wantOps(t, "barrier b[1];", barrier(4))
	wantOps(t, "barrier d, a[2], b, a[0];", barrier(6, 7, 2, 3, 4, 5, 0))
	wantOps(t, "barrier a; barrier a;", barrier(0, 1, 2), barrier(0, 1, 2))
	wantParse(t, head+"qreg a[1]; creg c[1]; measure a -> c; measure a[0] -> c[0]; reset a; barrier a;", of(1, 1, measure(0, 0), measure(0, 0), reset(0), barrier(0)))
	all := barrier()
	for q := range 64 {
		all.Qubits = append(all.Qubits, q)
	}
	wantParse(t, head+"qreg a[64]; barrier a;", of(64, 0, all))
}

// P8.3: defines stand for the operations of their bodies.
func TestParseDefines(t *testing.T) {
	x, cx, s := api.GateX, api.GateCX, api.GateS
	wantOps(t, "gate g p { } g a; g b[1];")
	wantOps(t, "gate g p { x p; } g a[1];", do(x, 1))
	wantOps(t, "gate g p, r { cx r, p; x p; } g a[1], b[2];", do(cx, 5, 1), do(x, 1))
	wantOps(t, "gate g p, r { cx r, p; } gate h p, r { g r, p; s p; g p, r; } h a[0], d[0];", do(cx, 0, 6), do(s, 0), do(cx, 6, 0))
	wantOps(t, "gate g p, r, w { cx r, w; } gate h p, r, w { g w, p, r; } gate k p, r, w { h r, w, p; } k a[0], a[1], a[2];", do(cx, 1, 2))
	wantOps(t, "gate g p, r { x r; } gate e p { } gate h p, r, w { e r; g w, p; e p; } h a, b, d[0];", do(x, 0), do(x, 1), do(x, 2))
	wantOps(t, "gate g p, r { cx p, r; x r; } g a, b[0];", do(cx, 0, 3), do(x, 3), do(cx, 1, 3), do(x, 3), do(cx, 2, 3), do(x, 3))
	wantOps(t, "gate g p, r { barrier r, p; x p; barrier p; } g d[1], a[0];", barrier(0, 7), do(x, 7), barrier(7))
	wantOps(t, "gate g p { x p; barrier p; s p; } gate h p { g p; barrier p; } if (m[1] == 1) h a[0];", when(1, 1, do(x, 0)), barrier(0), when(1, 1, do(s, 0)), barrier(0))
	wantOps(t, "gate g p { barrier p; } if (m[1] == 0) g a[2];", barrier(2))
	wantOps(t, "x a[0]; gate g p { x p; } g a[1]; gate h p { g p; g p; } h a[2];", do(x, 0), do(x, 1), do(x, 2), do(x, 2))
}

// P8.3: names of a define may be those of anything else; a call is of a gate, and what it is given are names of the define.
func TestParseNames(t *testing.T) {
	x, cx := api.GateX, api.GateCX
	wantOps(t, "gate g x { x x; } g a[1];", do(x, 1))
	wantOps(t, "gate g g { x g; } g a[1];", do(x, 1))
	wantOps(t, "gate g b, a { cx a, b; } g a[0], b[0];", do(cx, 3, 0))
	wantOps(t, "gate g p { x p; } gate h g { g g; } h a[2];", do(x, 2))
	wantOps(t, "gate g m, n { cx m, n; } g a[2], d[0];", do(cx, 2, 6))
	for _, name := range []string{"h", "U", "CX", "pi", "_", "q_1", "openqasm", "Measure", "IF", "barriers", "qelib1", "opaque_", strings.Repeat("z", 32)} {
		wantParse(t, head+"qreg "+name+"[1]; x "+name+";", of(1, 0, do(x, 0)))
		wantParse(t, head+"creg "+name+"[1];", of(0, 1))
		wantOps(t, "gate "+name+" p { x p; } "+name+" a[0];", do(x, 0))
		wantOps(t, "gate g "+name+" { x "+name+"; } g a[0];", do(x, 0))
	}
}

// P8.3: what stands between tokens, and lines and columns.
func TestParseSpots(t *testing.T) {
	wantParse(t, "// é\nOPENQASM\t2.0\r\n;qreg//\na\n[\n1];x a;//", of(1, 0, do(api.GateX, 0)))
	wantFault(t, "// é\nOPENQASM 2.0;\n// ü\n\tqreg a[1];\n  x a[0]; ^h a;", api.ErrUnknown)
	wantFault(t, "OPENQASM 2.0; // é\n\"ü\" ^é", api.ErrToken)
	wantFault(t, "OPENQASM 2.0; // é\n^\"ü\"", api.ErrSyntax)
	wantFault(t, " \n // nothing\n ^", api.ErrSyntax)
	wantFault(t, "// a comment^", api.ErrSyntax)
}

// lines are so many of one text.
func lines(n int, text string) string { return strings.Repeat(text, n) }

// P8.3: 4096 operations may be, and no more, of whichever kind.
func TestParseMany(t *testing.T) {
	const start = head + "qreg a[4]; creg c[4]; gate none p { } gate two p { x p; barrier p; } "
	full := lines(1024, "x a; ")
	c, f := circuit.Parse(start + full + "none a; none a[1]; if (c[0] == 0) none a;")
	if f != (api.Fault{}) || len(c.Ops) != 4096 {
		t.Errorf("%+v, %d operations", f, len(c.Ops))
	}
	for _, more := range []string{"^x a[0];", "^x a;", "if (c[0] == 1) ^x a[0];", "^measure a[0] -> c[0];", "^reset a[0];", "^barrier a;", "^two a[0];"} {
		wantFault(t, start+full+more+" h 7 }", api.ErrMany)
	}
	for _, n := range []struct {
		ahead int
		text  string
		one   bool
	}{
		{4093, "^x a;", false}, {4092, "^x a;", true}, {4093, "^measure a -> c;", false}, {4092, "^measure a -> c;", true}, {4093, "^reset a;", false}, {4092, "^reset a;", true},
		{4095, "^two a[0];", false}, {4094, "^two a[0];", true}, {4095, "^barrier a;", true}, {4089, "^two a;", false}, {4088, "^two a;", true},
	} {
		marked := start + lines(n.ahead, "x a[0]; ") + n.text
		if !n.one {
			wantFault(t, marked, api.ErrMany)
			continue
		}
		c, f := circuit.Parse(strings.Replace(marked, "^", "", 1))
		if _, e := circuit.Check(c); f != (api.Fault{}) || e != api.OK {
			t.Errorf("%d and %s: %+v %d", n.ahead, n.text, f, e)
		}
	}
	wantFault(t, start+full+"^two a[0], a[1];", api.ErrCall)
	wantFault(t, start+full+"^x a, a;", api.ErrCall)
	wantFault(t, start+full+"x ^q;", api.ErrUnknown)
	wantFault(t, start+full+"x a^", api.ErrSyntax)
}

// doubling writes defines g0 to gN, of which each stands for twice as many operations as the one ahead; g0 for one.
func doubling(n int, body string) string {
	text := "gate g0 p { " + body + " } "
	for i := range n {
		one := "g" + strconv.Itoa(i) + " p; "
		text += "gate g" + strconv.Itoa(i+1) + " p { " + one + one + "} "
	}
	return text
}

// P8.3: a define stands for 4096 operations at most, whether it is called or not.
func TestParseManyInBodies(t *testing.T) {
	const start = head + "qreg a[2]; "
	wantParse(t, start+doubling(12, "x p;")+"g12 a[1];", of(2, 0, repeated(4096, do(api.GateX, 1))...))
	wantParse(t, start+doubling(12, "barrier p;")+"g11 a;", of(2, 0, append(repeated(2048, barrier(0)), repeated(2048, barrier(1))...)...))
	wantFault(t, start+doubling(12, "x p;")+"^g12 a;", api.ErrMany)
	wantFault(t, start+doubling(12, "x p;")+"gate h p { g12 p; ^g0 p; } }", api.ErrMany)
	wantFault(t, start+doubling(12, "x p;")+"gate h p { g12 p; ^x p; y q", api.ErrMany)
	wantFault(t, start+doubling(12, "x p;")+"gate h p { x p; ^g12 p; x q", api.ErrMany)
	wantFault(t, start+doubling(12, "x p;")+"gate h p { g12 p; ^barrier p; x q", api.ErrMany)
	wantFault(t, start+doubling(12, "x p;")+"gate h p { g12 p; ^cx p, p; x q", api.ErrCall)
	wantFault(t, start+"gate h p { "+lines(4096, "x p; ")+"^x p; }", api.ErrMany)
	wantParse(t, start+"gate h p { "+lines(4096, "x p; ")+"} gate e p { } gate k p { h p; e p; }", of(2, 0))
	wantFault(t, start+doubling(12, "x p;")+"gate g13 p { g12 p; ^g12 p; }", api.ErrMany)
}

// P8.3, R1: defines that stand for nothing, or for one operation, however often they are called: the reader ends.
func TestParseEmptyDefines(t *testing.T) {
	const start = head + "qreg a[2]; "
	wantParse(t, start+doubling(500, "")+"g500 a;", of(2, 0))
	chain := "gate g0 p, r { cx r, p; } "
	for i := range 3000 {
		chain += "gate g" + strconv.Itoa(i+1) + " p, r { g" + strconv.Itoa(i) + " r, p; } "
	}
	c, f := circuit.Parse(start + chain + lines(4096, "g3000 a[0], a[1]; "))
	wantCircuit(t, "a chain", c, of(2, 0, repeated(4096, do(api.GateCX, 1, 0))...))
	if f != (api.Fault{}) {
		t.Error(f)
	}
	wantParse(t, start+doubling(500, "")+"gate h p { g500 p; x p; g500 p; } h a[1];", of(2, 0, do(api.GateX, 1)))
	full := start + doubling(12, "x p;")
	for i := 12; i < 3000; i++ {
		full += "gate g" + strconv.Itoa(i+1) + " p { g" + strconv.Itoa(i) + " p; } "
	}
	wantParse(t, full+"g3000 a[0];", of(2, 0, repeated(4096, do(api.GateX, 0))...))
}

// P8.3: very many names and args.
func TestParseLongLists(t *testing.T) {
	var names []string
	for i := range 20000 {
		names = append(names, "n"+strconv.Itoa(i))
	}
	all := strings.Join(names, ", ")
	start := head + "qreg a[64]; gate g " + all + " { cx n19999, n0; barrier " + all + "; } "
	wantParse(t, start+"gate h "+all+" { g "+all+"; }", of(64, 0))
	wantFault(t, start+"gate h "+all+", ^n0 { }", api.ErrTwice)
	wantFault(t, start+"gate h "+all+" { ^g "+all+", n7; }", api.ErrCall)
	wantFault(t, start+"gate h "+all+", more { ^barrier "+all+", more, n7; }", api.ErrCall)
	wantFault(t, start+"^g "+lines(19999, "a, ")+"a;", api.ErrCall)
	wantFault(t, start+"^g "+lines(19999, "a[0], ")+"a[1];", api.ErrCall)
	wantFault(t, start+"^barrier "+lines(19999, "a, ")+"a;", api.ErrCall)
	wantFault(t, start+"^x "+lines(19999, "a, ")+"a;", api.ErrCall)
}
