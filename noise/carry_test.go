package noise_test

import (
	"math/rand"
	"strings"
	"testing"

	"phasor/api"
	"phasor/gate"
)

// P24.4: by hand: what each gate makes of letters; phases are left out.
func TestCarryThroughGates(t *testing.T) {
	for gates, images := range map[string]string{
		"id 0; x 0; y 0; z 0; barrier 0": "X X, Y Y, Z Z",
		"s 0":                            "X Y, Y X, Z Z",
		"sdg 0":                          "X Y, Y X, Z Z",
		"sx 0":                           "X X, Y Z, Z Y",
		"sxdg 0":                         "X X, Y Z, Z Y",
		"sy 0":                           "X Z, Y Y, Z X",
		"sydg 0":                         "X Z, Y Y, Z X",
		"s 0; sx 0":                      "X Z, Y X, Z Y",
		"cx 0 1":                         "II II, XI XX, YI YX, ZI ZI, IX IX, IY ZY, IZ ZZ, XX XI, YZ XY, ZZ IZ",
		"cx 1 0":                         "XI XI, YI YZ, ZI ZZ, IX XX, IZ IZ, XX IX",
		"cy 0 1":                         "XI XY, YI YY, ZI ZI, IX ZX, IY IY, IZ ZZ",
		"cz 1 0":                         "XI XZ, YI YZ, ZI ZI, IX ZX, IZ IZ, XX YY",
		"swap 0 1":                       "XI IX, YZ ZY, IZ ZI",
		"iswap 0 1":                      "XI ZY, YI ZX, ZI IZ, IX YZ, XX XX",
		"iswapdg 1 0":                    "XI ZY, YI ZX, ZI IZ, IY XZ",
		"hh 0 1":                         "XI ZI, ZI XI, IY IY, XZ ZX",
		"cx 0 1; cx 1 2; barrier 2 0":    "XII XXX, IXI IXX, IIX IIX, ZII ZII, IZI ZZI, IIZ IZZ",
	} {
		for part := range strings.SplitSeq(images, ",") {
			words := strings.Fields(part)
			c := written(t, len(words[0]), 0, gates)
			for _, sign := range []string{"+", "+i", "-", "-i"} {
				g := given{c: c, slips: []api.Slip{{P: read(sign + words[0])}}}
				carry.want(t, g, told{frame: frame("+"+words[1], "", "")})
			}
		}
	}
}

// P24.4: by hand: where slips strike, what measurements, resets and conditions do.
func TestCarryByHand(t *testing.T) {
	for _, c := range []struct {
		qubits, bits             int
		text, slips              string
		letters, turned, outcome string
	}{
		{0, 0, "", "", "+", "", ""}, {0, 3, "", "0 -", "+", "000", ""}, {2, 1, "", "", "+II", "0", ""}, {2, 1, "", "0 -iXY", "+XY", "0", ""},
		// slips one behind the other
		{1, 0, "s 0", "0 +X, 1 +X", "+Z", "", ""}, {1, 0, "s 0", "1 +X, 1 +X", "+I", "", ""}, {1, 0, "s 0", "1 +X, 1 +Y", "+Z", "", ""}, {1, 0, "s 0; s 0", "1 +X", "+Y", "", ""}, {1, 0, "s 0; s 0", "2 +X", "+X", "", ""}, {2, 0, "cx 0 1; cx 0 1", "0 +XI, 1 +IX, 2 +ZZ", "+YY", "", ""},
		// what is measured
		{1, 1, "measure 0 -> 0", "0 +X", "+X", "1", "1"}, {1, 1, "measure 0 -> 0", "0 +Y", "+Y", "1", "1"}, {1, 1, "measure 0 -> 0", "0 +Z", "+Z", "0", "0"}, {1, 1, "measure 0 -> 0", "1 +X", "+X", "0", "0"}, {1, 1, "measure 0 -> 0", "", "+I", "0", "0"},
		{2, 3, "measure 1 -> 2", "0 +IX", "+IX", "001", "1"}, {2, 3, "measure 1 -> 2", "0 +XI", "+XI", "000", "0"},
		{2, 1, "measure 0 -> 0; measure 1 -> 0", "0 +XI", "+XI", "0", "10"}, {2, 1, "measure 0 -> 0; measure 1 -> 0", "0 +IX", "+IX", "1", "01"}, {1, 1, "measure 0 -> 0; measure 0 -> 0", "1 +X", "+X", "1", "01"}, {1, 1, "measure 0 -> 0; measure 0 -> 0", "0 +X, 1 +X", "+I", "0", "10"},
		{2, 2, "measure 0 -> 0; cx 0 1; measure 1 -> 1", "0 +XI", "+XX", "11", "11"}, {1, 1, "sy 0; measure 0 -> 0", "0 +Z", "+X", "1", "1"},
		// what is reset: no bit is
		{1, 1, "reset 0", "0 +X", "+I", "0", "1"}, {1, 1, "reset 0", "0 +Y", "+I", "0", "1"}, {1, 1, "reset 0", "0 +Z", "+I", "0", "0"}, {1, 1, "reset 0", "1 +Y", "+Y", "0", "0"}, {2, 1, "reset 0", "0 +YY", "+IY", "0", "1"},
		{1, 1, "measure 0 -> 0; reset 0; measure 0 -> 0", "0 +X", "+I", "0", "110"}, {1, 2, "measure 0 -> 0; reset 0; measure 0 -> 1", "0 +X", "+I", "10", "110"},
		// conditions: of a bit that is turned, whatever it must be; else nothing is done, however the string is
		{2, 1, "measure 0 -> 0; if 0 1 x 1", "0 +XI", "+XX", "1", "1"}, {2, 1, "measure 0 -> 0; if 0 0 x 1", "0 +XI", "+XX", "1", "1"}, {2, 1, "measure 0 -> 0; if 0 0 y 1", "0 +YI", "+YY", "1", "1"}, {2, 1, "measure 0 -> 0; if 0 1 z 0", "0 +XI", "+YI", "1", "1"}, {2, 1, "measure 0 -> 0; if 0 1 id 1", "0 +XI", "+XI", "1", "1"},
		{2, 1, "measure 0 -> 0; if 0 1 x 1", "0 +ZI", "+ZI", "0", "0"}, {2, 1, "if 0 0 y 1; if 0 1 z 0", "0 +XX", "+XX", "0", ""}, {2, 2, "measure 0 -> 0; if 1 1 x 1", "0 +XI", "+XI", "10", "1"}, {2, 2, "measure 0 -> 1; if 1 1 x 1; if 1 0 x 0", "0 +XI", "+IX", "01", "1"},
		{2, 1, "if 0 1 x 1; measure 0 -> 0", "0 +XI", "+XI", "1", "1"}, {2, 1, "measure 0 -> 0; measure 0 -> 0; if 0 1 x 1", "0 +XI, 1 +XI", "+II", "0", "10"}, {2, 1, "measure 0 -> 0; if 0 1 x 1; if 0 1 x 1; if 0 1 x 1", "0 +XI", "+XX", "1", "1"}, {2, 2, "measure 0 -> 0; if 0 1 x 1; measure 1 -> 1", "0 +XI", "+XX", "11", "11"},
		{2, 1, "measure 0 -> 0; if 0 1 x 0; reset 1", "0 +XX", "+II", "1", "11"},
	} {
		g := given{c: written(t, c.qubits, c.bits, c.text), slips: slipsOf(t, c.slips)}
		carry.want(t, g, told{frame: frame(c.letters, c.turned, c.outcome)})
	}
}

// P24.4: of all Clifford gates on all letters, and of circuits at chance, against the chapter written a second time, which asks the gates' matrices.
func TestCarry(t *testing.T) {
	chance := rand.New(rand.NewSource(2404))
	for _, k := range gate.Kinds() {
		if !gate.Clifford(k) {
			continue
		}
		for i := range 16 {
			c := of(3, 0, do(k, []int{2, 0}[:gate.Arity(k)]...))
			p := api.Pauli{N: 3, X: uint64(i%2 + i/2%2*4), Z: uint64(i/4%2 + i/8*4), Phase: i % 4}
			carry.wantSlow(t, given{c: c, slips: []api.Slip{{P: p}}})
		}
	}
	for i := range 2000 {
		w := wish{qubits: chance.Intn(8), bits: chance.Intn(4), ops: chance.Intn(40), halves: 50, measures: 12, carries: true}
		if i%20 == 0 {
			w.qubits, w.bits, w.ops, w.measures = 57+chance.Intn(8), 64, 300, 300
		}
		c := w.drawn(chance)
		carry.wantSlow(t, given{c: c, slips: anySlips(chance, c, chance.Intn(6))})
	}
}

// P24.4: of as many operations, and of very many slips, as may be.
func TestCarryOfMany(t *testing.T) {
	chance := rand.New(rand.NewSource(2405))
	c := wish{qubits: 64, bits: 64, ops: 4096, halves: 4096, measures: 4096, carries: true}.drawn(chance)
	carry.wantSlow(t, given{c: c, slips: anySlips(chance, c, 200)})
	var many []api.Slip
	for i := range 100001 {
		many = append(many, api.Slip{After: i / 50000, P: api.Pauli{N: 64, X: 1 << (i % 64)}})
	}
	carry.wantSlow(t, given{c: of(64, 0, do(api.GateCZ, 0, 63), do(api.GateW, 1)), slips: many})
}

// P24.4, P24.8, P24.9: what no frame can be carried through, though there be no slip, or the gate be never done; a condition on a Clifford gate that does more than a letter among it.
func TestStuck(t *testing.T) {
	for _, c := range stuckCircuits() {
		for _, slips := range [][]api.Slip{nil, {{P: api.Pauli{N: c.Qubits}}}, {{P: api.Pauli{N: c.Qubits, X: 1}}, {After: len(c.Ops), P: api.Pauli{N: c.Qubits, Z: 1}}}} {
			g := given{c: c, slips: slips}
			carry.refuses(t, "a gate that no frame goes through", g, api.ErrFrame)
			blind.refuses(t, "a gate that no frame goes through", g, api.ErrFrame)
			faults.want(t, g, told{})
			check.want(t, g, told{})
		}
		carry.refuses(t, "slips that do not fit", given{c: c, slips: []api.Slip{{After: -1, P: api.Pauli{N: c.Qubits}}}}, api.ErrNoise)
	}
}

// P24.4: whether it refuses, at chance.
func TestCarryOrNot(t *testing.T) {
	chance := rand.New(rand.NewSource(2406))
	seen := map[api.Errno]int{}
	for range 1500 {
		c := wish{qubits: 1 + chance.Intn(4), bits: chance.Intn(3), ops: chance.Intn(8), halves: 9, measures: 4}.drawn(chance)
		g := given{c: c, slips: anySlips(chance, c, chance.Intn(3))}
		for _, f := range []call{carry, blind, faults} {
			f.wantSlow(t, g)
		}
		_, e := slow("Carry", g)
		seen[e]++
	}
	if seen[api.OK] < 200 || seen[api.ErrFrame] < 200 {
		t.Error("too few of one kind:", seen)
	}
}
