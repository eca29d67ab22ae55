package rewrite_test

import (
	"math/rand"
	"slices"
	"testing"

	"phasor/api"
	"phasor/apply"
	"phasor/circuit"
	"phasor/gate"
	"phasor/matrix"
)

// Every call refuses what may not be, and answers what there is nothing in.
func TestCircuitsThatMayNotBe(t *testing.T) {
	for _, f := range calls() {
		for _, c := range wrongCircuits() {
			f.refuses(t, "what may not be", c, api.ErrCircuit)
		}
		for _, c := range []api.Circuit{of(0, 0), of(64, 64), of(3, 0), of(0, 5)} {
			f.want(t, "nothing", c, c)
		}
	}
}

// P18.2: rule 1 alone takes id out; not one with a condition.
func TestRuleOne(t *testing.T) {
	for _, f := range []call{cancel, simplify, slide} {
		f.wantText(t, "id 0", "")
		f.wantText(t, "id 0; id 0; id 1; id 0", "")
		f.wantText(t, "x 0; id 0; x 0", "")
		f.wantText(t, "x 0; id 1; s 0", "x 0; s 0")
		f.wantText(t, "measure 0 -> 0; id 0; barrier 0; id 0; reset 0", "measure 0 -> 0; barrier 0; reset 0")
		f.stays(t, "if 0 1 id 0")
		f.stays(t, "if 0 1 id 0; if 1 0 id 0; measure 0 -> 0")
	}
	merge.stays(t, "id 0")
	merge.stays(t, "id 0; id 1")
	merge.wantText(t, "id 0; id 0; id 0", "id 0")
}

// P18.2: rule 2 of each kind, on each order of qubits: both go just if the order does not matter, which is just if the matrices undo each other.
func TestRuleTwo(t *testing.T) {
	for _, k := range gate.Kinds() {
		n := gate.Arity(k)
		if k == api.GateI {
			continue
		}
		for _, mixed := range [][]int{{0, 1, 2}, {0, 2, 1}, {1, 0, 2}, {1, 2, 0}, {2, 0, 1}, {2, 1, 0}} {
			if slices.Max(mixed[:n]) >= n {
				continue
			}
			c := of(3, 0, do(k, 0, 1, 2), do(gate.Inverse(k), mixed[:n]...))
			c.Ops[0].Qubits = c.Ops[0].Qubits[:n]
			wanted := c
			if isUnit(t, c) {
				wanted = of(3, 0)
			}
			for _, f := range []call{cancel, simplify, slide} {
				f.want(t, gate.Name(k), c, wanted)
			}
		}
	}
}

// isUnit tells whether a circuit does nothing.
func isUnit(t *testing.T, c api.Circuit) bool {
	t.Helper()
	m, e := apply.Unitary(c)
	one, f := matrix.Identity(m.N)
	if e != api.OK || f != api.OK {
		t.Fatal(e, f)
	}
	return matrix.Equal(m, one)
}

// P18.2: rule 2 by hand, of orders that do not matter and of orders that do.
func TestRuleTwoByHand(t *testing.T) {
	for _, f := range []call{cancel, simplify, slide} {
		for _, s := range []string{
			"cz 0 1; cz 1 0", "swap 0 1; swap 1 0", "iswap 0 1; iswapdg 1 0", "iswapdg 0 1; iswap 1 0", "hh 0 1; hh 1 0",
			"ccz 0 1 2; ccz 2 0 1", "ccz 0 1 2; ccz 1 0 2", "ccx 0 1 2; ccx 1 0 2", "ccx 0 1 2; ccx 0 1 2", "cswap 0 1 2; cswap 0 2 1",
			"s 0; sdg 0", "sdg 0; s 0", "sx 0; sxdg 0", "sxdg 0; sx 0", "sy 0; sydg 0", "sydg 0; sy 0", "x 0; x 0", "y 0; y 0", "z 0; z 0",
			"cx 0 1; cx 0 1", "cy 1 0; cy 1 0", "x 0; s 0; sdg 0; x 0", "cx 0 1; s 0; x 1; sdg 0; x 1; cx 0 1",
		} {
			f.wantText(t, s, "")
		}
		for _, s := range []string{
			"cx 0 1; cx 1 0", "cy 0 1; cy 1 0", "ccx 0 1 2; ccx 0 2 1", "ccx 0 1 2; ccx 2 1 0", "cswap 0 1 2; cswap 1 0 2", "cswap 0 1 2; cswap 2 1 0",
			"iswap 0 1; iswap 0 1", "iswapdg 1 0; iswapdg 0 1", "cz 0 1; cz 0 2", "ccz 0 1 2; ccz 0 1 3", "hh 0 1; hh 1 2", "ccx 0 1 2; ccx 0 1 3", "ccx 0 1 2; ccx 0 3 2",
			"x 0; if 0 1 x 0", "if 0 1 x 0; x 0", "if 0 1 x 0; if 0 1 x 0", "if 0 0 cx 0 1; cx 0 1",
			"cz 0 1; barrier 1; cz 0 1", "cz 0 1; reset 0; cz 1 0", "x 0; x 1; measure 0 -> 1; x 0; x 2",
		} {
			f.stays(t, s)
		}
		f.wantText(t, "x 0; measure 1 -> 0; if 0 1 x 2; barrier 3; reset 4; x 0", "measure 1 -> 0; if 0 1 x 2; barrier 3; reset 4")
		f.wantText(t, "cx 0 1; s 2; cx 0 1; s 2; sdg 2", "s 2")
	}
	cancel.stays(t, "s 0; s 0")
	cancel.stays(t, "x 0; y 0; z 0")
	cancel.stays(t, "cx 0 1; cx 0 2; cx 0 1")
}

// P18.2: the rule is used at the least place, so what is left is the last of three; and what comes free ahead is found.
func TestTheLeastPlace(t *testing.T) {
	for _, f := range []call{cancel, simplify, slide} {
		f.wantText(t, "cz 0 1; cz 1 0; cz 1 0", "cz 1 0")
		f.wantText(t, "cz 1 0; cz 1 0; cz 0 1", "cz 0 1")
		f.wantText(t, "x 0; s 1; x 0; s 2; x 0", "s 1; s 2; x 0")
		f.wantText(t, "ccz 0 1 2; ccz 0 2 1; s 3; ccz 2 1 0", "s 3; ccz 2 1 0")
		f.wantText(t, "swap 0 1; x 0; swap 1 0; swap 0 1; x 0; swap 1 0; swap 1 0", "swap 1 0")
		f.wantText(t, "sx 0; cx 0 1; y 1; y 1; cx 0 1; sxdg 0; sx 0", "sx 0")
	}
	// What is between comes free by what goes at both sides.
	cancel.wantText(t, "s 1; cx 0 1; x 0; x 0; cx 0 1; sdg 1; z 2", "z 2")
	merge.wantText(t, "s 0; x 1; s 0; y 2; s 0", "sdg 0; x 1; y 2")
}

// P18.2: rule 3 of each pair of kinds of as many qubits: what layer 6 makes of both stands in the place of the first.
func TestRuleThree(t *testing.T) {
	for _, a := range gate.Kinds() {
		for _, b := range gate.Kinds() {
			if gate.Arity(a) != gate.Arity(b) {
				continue
			}
			q := []int{2, 0, 3}[:gate.Arity(a)]
			c := of(5, 1, do(a, q...), do(api.GateX, 4), do(b, q...))
			wanted := c
			if k, is := gate.Compose(a, b); is {
				wanted = of(5, 1, do(k, q...), do(api.GateX, 4))
			}
			merge.want(t, gate.Name(a)+" "+gate.Name(b), c, wanted)
		}
	}
}

// P18.2: rule 3 by hand.
func TestRuleThreeByHand(t *testing.T) {
	merge.wantText(t, "x 0; x 0", "id 0")
	merge.wantText(t, "x 0; x 0; y 0", "y 0")
	merge.wantText(t, "id 0; s 0", "s 0")
	merge.wantText(t, "s 0; id 0", "s 0")
	merge.wantText(t, "sx 0; sx 0; sy 1; sy 1", "x 0; y 1")
	merge.wantText(t, "sx 0; sy 1; sx 0; sy 1", "x 0; y 1")
	merge.wantText(t, "s 0; z 0", "sdg 0")
	merge.wantText(t, "s 0; barrier 1; measure 1 -> 0; if 0 1 x 1; s 0; s 0; s 0", "id 0; barrier 1; measure 1 -> 0; if 0 1 x 1")
	for _, s := range []string{
		"x 0; z 0", "s 0; sx 0", "x 0; x 1", "cx 0 1; cx 0 1", "cz 0 1; cz 1 0", "hh 0 1; hh 0 1", "ccx 0 1 2; ccx 0 1 2", "swap 0 1; swap 0 1",
		"s 0; if 0 1 s 0", "if 0 1 s 0; s 0", "if 0 1 s 0; if 0 1 s 0", "s 0; barrier 0; s 0", "s 0; measure 0 -> 0; s 0", "s 0; reset 0; s 0", "s 0; cz 0 1; s 0",
	} {
		merge.stays(t, s)
	}
}

// P18.2: Simplify uses what the others can't alone.
func TestSimplify(t *testing.T) {
	simplify.wantText(t, "s 0; s 0; z 0", "")
	simplify.wantText(t, "sx 0; sx 0; x 0; id 1", "")
	simplify.wantText(t, "cx 0 1; s 0; s 0; z 0; cx 0 1", "")
	simplify.wantText(t, "s 0; sx 0; sx 0; x 0; s 0", "z 0")
	simplify.wantText(t, "hh 0 1; sy 0; sy 0; y 0; hh 1 0; s 2; s 2", "z 2")
	simplify.stays(t, "x 0; z 0; x 0")
	simplify.stays(t, "if 0 1 id 0; if 0 1 x 0; if 0 1 x 0")
}

// P18.2: circuits at chance, against the slow way.
func TestRulesAtChance(t *testing.T) {
	chance := rand.New(rand.NewSource(1802))
	shorter := 0
	for _, c := range samples(chance, 6000) {
		cancel.want(t, "one at chance", c, slowCancel(c))
		merge.want(t, "one at chance", c, slowMerge(c))
		d := slowSimplify(c)
		simplify.want(t, "one at chance", c, d)
		if len(d.Ops) < len(c.Ops) {
			shorter++
		}
	}
	if shorter < 1000 {
		t.Error("too few were made shorter:", shorter)
	}
}

// P18.2: the longest circuits there may be.
func TestLongRules(t *testing.T) {
	s, sdg, x := do(api.GateS, 0), do(api.GateSdg, 0), do(api.GateX, 0)
	cancel.want(t, "the longest", of(1, 0, times(4096, x)...), of(1, 0))
	cancel.want(t, "the longest", of(1, 0, times(4095, x)...), of(1, 0, x))
	cancel.want(t, "the longest", of(1, 0, behind(times(2048, s), times(2048, sdg))...), of(1, 0))
	cancel.want(t, "the longest", of(1, 0, times(4096, s)...), of(1, 0, times(4096, s)...))
	merge.want(t, "the longest", of(1, 0, times(4096, s)...), of(1, 0, do(api.GateI, 0)))
	merge.want(t, "the longest", of(1, 0, times(4095, s)...), of(1, 0, sdg))
	simplify.want(t, "the longest", of(1, 0, times(4096, s)...), of(1, 0))
	simplify.want(t, "the longest", of(1, 0, times(4095, s)...), of(1, 0, sdg))
	slide.want(t, "the longest", of(1, 0, times(4096, s)...), of(1, 0, times(4096, s)...))
	// Partners that are far off, again and again.
	far := of(64, 0, behind(times(512, s, do(api.GateV, 0)), times(1024, do(api.GateX, 1), do(api.GateZ, 1)), times(512, do(api.GateVdg, 0), sdg))...)
	left := of(64, 0, times(1024, do(api.GateX, 1), do(api.GateZ, 1))...)
	for _, f := range []call{cancel, simplify, slide} {
		f.want(t, "partners far off", far, left)
	}
	merge.want(t, "many uses far off", of(2, 0, behind([]api.Op{s}, times(1024, do(api.GateX, 1), do(api.GateZ, 1)), times(2047, s))...), of(2, 0, behind([]api.Op{do(api.GateI, 0)}, times(1024, do(api.GateX, 1), do(api.GateZ, 1)))...))
	chance := rand.New(rand.NewSource(1803))
	c := wish{qubits: 64, bits: 64, ops: 4096, halves: 4096, measures: 64}.drawn(chance)
	for _, f := range shortening() {
		d := f.answer(t, c)
		if len(d.Ops) > len(c.Ops) || !circuit.Same(f.answer(t, d), d) {
			t.Error(f.name, "of the longest is longer, or not its own answer")
		}
	}
}

// R3: answers are new memory.
func TestAnswersAreNewMemory(t *testing.T) {
	c := text(t, "x 0; s 1; s 1; cx 0 1; measure 0 -> 0; if 0 1 hh 3 4; barrier 0 1 2; sx 0; s 0; y 2; reset 1; iswap 0 1; cswap 2 1 0; s 4; sx 4")
	for _, f := range calls() {
		f.wantOwn(t, c)
		f.wantOwn(t, text(t, "cx 0 1; cx 1 0; sy 2"))
	}
}
