package equal_test

import (
	"math/rand"
	"testing"

	"phasor/api"
	"phasor/gate"
	"phasor/invert"
)

// parted is two circuits of so many qubits, and by what they part: the power of i, and the least basis state.
type parted struct {
	qubits int
	a, b   string
	phase  int
	least  int
}

func (p parted) hold(t *testing.T) {
	t.Helper()
	a, b := gates(t, p.qubits, p.a), gates(t, p.qubits, p.b)
	phase.wantNumber(t, a, b, p.phase)
	witness.wantNumber(t, a, b, p.least)
	back := p.phase
	if back > 0 {
		back = 4 - back
	}
	phase.wantNumber(t, b, a, back)
	witness.wantNumber(t, b, a, p.least)
}

// P21.1, P21.2: by hand.
func TestPartedByHand(t *testing.T) {
	for _, p := range []parted{
		{0, "", "", 0, -1},
		{1, "", "", 0, -1},
		{1, "", "id 0", 0, -1},
		{1, "", "x 0; s 0; x 0; s 0", 3, 0},
		{1, "x 0; s 0; x 0; s 0", "", 1, 0},
		{1, "x 0; z 0; x 0; z 0", "", 2, 0},
		{1, "z 0; x 0", "y 0", 3, 0},
		{1, "s 0", "sdg 0", -1, 1},
		{1, "s 0; s 0; s 0", "sdg 0", 0, -1},
		{1, "sx 0; sx 0", "x 0", 0, -1},
		{1, "sy 0; sy 0", "y 0", 0, -1},
		{1, "sx 0", "sxdg 0", -1, 0},
		{1, "sx 0; x 0", "sxdg 0", 0, -1},
		{1, "sy 0", "sydg 0", -1, 0},
		{1, "sx 0; s 0; sx 0; s 0; sx 0; s 0", "", 1, 0},
		{2, "hh 0 1", "hh 1 0", 0, -1},
		{2, "cx 0 1", "cx 1 0", -1, 1},
		{2, "cx 1 0", "", -1, 2},
		{2, "cz 0 1", "", -1, 3},
		{2, "cz 0 1", "cz 1 0", 0, -1},
		{2, "swap 0 1", "cx 0 1; cx 1 0; cx 0 1", 0, -1},
		{2, "x 0; x 1", "x 1; x 0", 0, -1},
		{2, "x 0; barrier 0 1; barrier 1; x 0", "barrier 1 0", 0, -1},
		{3, "ccz 0 1 2", "", -1, 7},
		{3, "ccx 0 1 2", "ccx 1 0 2", 0, -1},
		{3, "ccx 0 1 2", "", -1, 3},
		{3, "ccx 1 2 0", "", -1, 6},
		{3, "cswap 2 0 1", "", -1, 5},
		{6, "z 5", "", -1, 32},
		{6, "ccz 3 4 5", "", -1, 56},
		{6, "x 5; z 5", "y 5", 1, 0},
		{6, "s 5; z 5", "sdg 5", 0, -1},
	} {
		p.hold(t)
	}
}

// P21.1: what else parts them is not looked at: how many bits there are, how many operations, barriers.
func TestBitsDoNotCount(t *testing.T) {
	a, b := bitted(t, 1, 3, "y 0"), bitted(t, 1, 64, "z 0; barrier 0; x 0")
	phase.wantNumber(t, a, b, 1)
	witness.wantNumber(t, a, b, 0)
	clifford.wantYes(t, a, b, true)
	diagonal.wantYes(t, b, b, false)
}

// P21.2: of up to ten qubits, the highest basis states, too.
func TestWitnessOfMany(t *testing.T) {
	for q := range 10 {
		witness.wantNumber(t, of(10, 0, do(api.GateZ, q)), of(10, 0), 1<<q)
		witness.wantNumber(t, of(10, 0, do(api.GateX, q)), of(10, 0), 0)
	}
	ten := func(text string) api.Circuit { return gates(t, 10, text) }
	witness.wantNumber(t, ten("ccz 9 8 7"), ten(""), 896)
	witness.wantNumber(t, ten("cx 9 0"), ten("cx 9 1"), 512)
	witness.wantNumber(t, ten("hh 9 0; sx 4"), ten("sx 4; hh 0 9"), -1)
	witness.wantNumber(t, ten("x 0; ccz 1 2 3; ccx 9 8 7"), ten("ccx 8 9 7; ccz 3 2 1; x 0"), -1)
	// Four qubits must be 1 for a sign to stay: qubit 5 is lent, and given back as it was.
	witness.wantNumber(t, ten("ccx 9 8 5; ccz 7 6 5; ccx 9 8 5; ccz 7 6 5"), ten(""), 960)
}

// P21.1, P21.2, P21.4: at chance, against the gates' matrices; every answer comes up.
func TestPartedAtChance(t *testing.T) {
	chance := rand.New(rand.NewSource(2101))
	seen, diagonals := map[int]int{}, 0
	for range 3000 {
		w := wish{qubits: chance.Intn(5), bits: chance.Intn(3), ops: chance.Intn(15), halves: chance.Intn(12)}
		a := w.drawn(chance)
		b := kin(chance, a)
		ofA, ofB := columns(a, slowColumn), columns(b, slowColumn)
		k := slowPhase(ofA, ofB)
		phase.wantNumber(t, a, b, k)
		witness.wantNumber(t, a, b, slowWitness(ofA, ofB))
		diagonal.wantYes(t, a, b, slowDiagonal(ofA))
		seen[k]++
		if slowDiagonal(ofA) {
			diagonals++
		}
	}
	for k := -1; k < 4; k++ {
		if seen[k] < 100 {
			t.Error(k, "came up too seldom:", seen)
		}
	}
	if diagonals < 300 || diagonals > 2700 {
		t.Error("diagonal:", diagonals)
	}
}

// P21.1, P21.2, P21.4: of five and six qubits; P21.2: of seven to ten.
func TestPartedOfMany(t *testing.T) {
	chance := rand.New(rand.NewSource(2102))
	for i := range 40 {
		a := wish{qubits: 5 + i%2, ops: chance.Intn(20), halves: 10}.drawn(chance)
		b := kin(chance, a)
		ofA, ofB := columns(a, slowColumn), columns(b, slowColumn)
		phase.wantNumber(t, a, b, slowPhase(ofA, ofB))
		witness.wantNumber(t, a, b, slowWitness(ofA, ofB))
		diagonal.wantYes(t, a, b, slowDiagonal(ofA))
	}
	for i := range 8 {
		a := wish{qubits: 7 + i%4, ops: 8, halves: 5}.drawn(chance)
		q := chance.Intn(a.Qubits)
		b := put(a, len(a.Ops), do(api.GateX, q), do(api.GateX, q))
		if i < 4 {
			b = put(b, 0, do(api.GateCCZ, chance.Perm(a.Qubits)[:3]...))
		}
		witness.wantNumber(t, a, b, slowWitness(columns(a, roundedColumn), columns(b, roundedColumn)))
	}
}

// P21.1, P21.2, P21.4: past the limit of exactness amplitudes are rounded, and what is rounded in another way parts circuits that would be one.
func TestPartedByRounding(t *testing.T) {
	chance := rand.New(rand.NewSource(2103))
	lost, blurred := 0, 0
	for range 2 {
		a := stirred(chance, 200)
		back, _ := invert.Inverse(a)
		round := of(4, 0, behind(a.Ops, back.Ops)...)
		for _, b := range []api.Circuit{of(4, 0), round, of(4, 0, behind(round.Ops, a.Ops)...)} {
			ofA, ofB := columns(a, roundedColumn), columns(b, roundedColumn)
			phase.wantNumber(t, a, b, slowPhase(ofA, ofB))
			witness.wantNumber(t, a, b, slowWitness(ofA, ofB))
			diagonal.wantYes(t, b, a, slowDiagonal(ofB))
		}
		if phase.answer(t, of(4, 0), round).number == -1 {
			lost++
		}
		if !diagonal.answer(t, round, a).yes {
			blurred++
		}
	}
	if lost == 0 || blurred == 0 {
		t.Error("nothing was rounded")
	}
}

// P21.4: each kind of gate is as layer 6 says, on one of two places of its qubits.
func TestDiagonalOfGates(t *testing.T) {
	for _, k := range gate.Kinds() {
		n := gate.Arity(k)
		qubits := []int{0, 1, 2}[:n]
		diagonal.wantYes(t, of(n, 0, do(k, qubits...)), of(0, 0), gate.Diagonal(k))
		qubits = []int{5, 2, 0}[:n]
		diagonal.wantYes(t, of(6, 0, do(k, qubits...)), of(0, 0), gate.Diagonal(k))
	}
}

// P21.4: by hand.
func TestDiagonalByHand(t *testing.T) {
	for _, c := range []struct {
		qubits int
		text   string
		wanted bool
	}{
		{0, "", true}, {1, "", true}, {6, "", true}, {6, "ccz 5 3 1; s 0; sdg 4; cz 2 3; barrier 1 2", true},
		{1, "x 0; z 0; x 0", true}, {1, "x 0; s 0", false}, {1, "sx 0; sxdg 0", true}, {1, "sx 0; sx 0", false}, {1, "sy 0; x 0; sydg 0", true},
		{2, "hh 0 1; hh 1 0", true}, {2, "hh 0 1; x 0; hh 0 1", true}, {2, "hh 0 1; x 0; z 1; hh 0 1", false}, {2, "swap 0 1; swap 1 0", true}, {2, "cx 0 1; s 1; cx 0 1", true},
		{2, "iswap 0 1", false}, {2, "iswap 0 1; iswap 0 1", true}, {2, "swap 0 1", false}, {3, "cswap 0 1 2", false}, {3, "ccx 0 1 2", false}, {6, "cx 5 4", false}, {6, "x 5", false}, {6, "x 0", false},
	} {
		diagonal.wantYes(t, gates(t, c.qubits, c.text), of(0, 0), c.wanted)
	}
}

// P21.1 to P21.4: as many operations as there may be.
func TestManyOperations(t *testing.T) {
	x, s := do(api.GateX, 5), do(api.GateS, 5)
	a, b := of(6, 0, times(2048, x, s)...), of(6, 0)
	phase.wantNumber(t, a, b, 0)
	witness.wantNumber(t, a, b, -1)
	clifford.wantYes(t, a, b, true)
	diagonal.wantYes(t, a, b, true)
	a.Ops[4095] = x
	phase.wantNumber(t, a, b, -1)
	witness.wantNumber(t, a, b, 0)
	clifford.wantYes(t, a, b, false)
	diagonal.wantYes(t, b, a, true)
}
