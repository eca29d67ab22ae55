package code_test

import (
	"math/rand"
	"testing"

	"phasor/api"
)

// All calls but Names and Qubits refuse a code that is none, whatever else they are given.
func TestNoCode(t *testing.T) {
	for _, name := range noNames() {
		qubits.want(t, given{name: name}, told{n: 0})
		for _, g := range []given{
			{name: name},
			{name: name, s: []complex128{1}},
			{name: name, inner: "bit", p: read("+XII"), syndrome: []int{1, 0}, zero: 1, s: make([]complex128, 8), kind: api.GateS},
			{name: name, inner: name, p: read("+XIIII"), syndrome: []int{0, 0, 0, 1}, one: 1, s: make([]complex128, 32), kind: api.GateCX},
			{name: name, inner: "shor", p: read("+"), syndrome: []int{2}, zero: 1, s: make([]complex128, 512), kind: api.GateX},
		} {
			for _, f := range ofCode() {
				f.refuses(t, g)
			}
		}
	}
}

// P25.1: the names, in the table's order.
func TestNames(t *testing.T) {
	namesOf.want(t, given{}, told{names: names()})
}

// P25.1: the table, string by string.
func TestTable(t *testing.T) {
	for name, wanted := range map[string]int{"bit": 3, "sign": 3, "five": 5, "steane": 7, "surface": 9, "shor": 9} {
		qubits.want(t, given{name: name}, told{n: wanted})
		stabilizers.wantSlow(t, given{name: name})
		logical.wantSlow(t, given{name: name})
	}
	stabilizers.want(t, given{name: "bit"}, told{strings: all("+ZZI", "+IZZ")})
	stabilizers.want(t, given{name: "sign"}, told{strings: all("+XXI", "+IXX")})
	stabilizers.want(t, given{name: "five"}, told{strings: all("+XZZXI", "+IXZZX", "+XIXZZ", "+ZXIXZ")})
	logical.want(t, given{name: "bit"}, told{p: read("+XXX"), q: read("+ZII")})
	logical.want(t, given{name: "sign"}, told{p: read("+ZZZ"), q: read("+XII")})
	logical.want(t, given{name: "surface"}, told{p: read("+XIIXIIXII"), q: read("+ZZZIIIIII")})
	logical.want(t, given{name: "shor"}, told{p: read("+ZZZZZZZZZ"), q: read("+XXXXXXXXX")})
}

// P25.2: syndromes of strings, by hand.
func TestSyndrome(t *testing.T) {
	for _, c := range []struct {
		name, p string
		wanted  []int
	}{
		{"bit", "+III", []int{0, 0}},
		{"bit", "-iXII", []int{1, 0}},
		{"bit", "+IXI", []int{1, 1}},
		{"bit", "+IIX", []int{0, 1}},
		{"bit", "+ZZZ", []int{0, 0}},
		{"bit", "+XXX", []int{0, 0}},
		{"bit", "-YIY", []int{1, 1}},
		{"sign", "+ZII", []int{1, 0}},
		{"sign", "+XXX", []int{0, 0}},
		{"sign", "+iIYI", []int{1, 1}},
		{"five", "+ZIIII", []int{1, 0, 1, 0}},
		{"five", "+YIIII", []int{1, 0, 1, 1}},
		{"five", "+IIIIX", []int{0, 0, 1, 1}},
		{"steane", "+ZIIIIII", []int{0, 0, 1, 0, 0, 0}},
		{"steane", "+IIIIIIY", []int{1, 1, 1, 1, 1, 1}},
		{"surface", "+IIIIXIIII", []int{0, 0, 0, 0, 1, 1, 0, 0}},
		{"surface", "+ZIIIIIIII", []int{0, 0, 1, 0, 0, 0, 0, 0}},
		{"shor", "+IIIIZIIII", []int{0, 0, 0, 0, 0, 0, 1, 1}},
		{"shor", "+IIIIYIIII", []int{0, 0, 1, 1, 0, 0, 1, 1}},
	} {
		syndrome.want(t, given{name: c.name, p: read(c.p)}, told{syndrome: c.wanted})
	}
}

// P25.2: Syndrome and Trivial of all strings of few qubits, and of strings at chance.
func TestStrings(t *testing.T) {
	chance := rand.New(rand.NewSource(2501))
	for _, name := range names() {
		n := books()[name].n
		for k := range 2000 {
			p := anyString(chance, n)
			if n == 3 {
				p = api.Pauli{N: n, X: uint64(k & 7), Z: uint64(k >> 3 & 7), Phase: k >> 6 & 3}
			}
			syndrome.wantSlow(t, given{name: name, p: p})
			trivial.wantSlow(t, given{name: name, p: p})
		}
	}
}

// P25.2: all products of stabilizers are trivial, whichever their phase; and no logical string, nor a product with one.
func TestTrivial(t *testing.T) {
	for _, name := range names() {
		b := books()[name]
		for letters, phase := range b.group {
			for turn := range 4 {
				w := word{letters, (phase + turn) % 4}
				trivial.want(t, given{name: name, p: w.string()}, told{flag: true})
			}
			for _, l := range []word{b.x, b.z, wordMul(b.x, b.z)} {
				w := wordMul(word{letters, phase}, l)
				trivial.want(t, given{name: name, p: w.string()}, told{flag: false})
			}
		}
	}
	trivial.want(t, given{name: "shor", p: read("+iIIIIIIIII")}, told{flag: true})
	trivial.want(t, given{name: "shor", p: read("+ZIZIIIIII")}, told{flag: true})
	trivial.want(t, given{name: "shor", p: read("+ZZZIIIIII")}, told{flag: false})
	trivial.want(t, given{name: "shor", p: read("+XIIIIIIII")}, told{flag: false})
}

// P25.2: strings that are not right, or of other qubits, are refused.
func TestWrongStrings(t *testing.T) {
	for _, name := range names() {
		for _, p := range wrongStrings(books()[name].n) {
			syndrome.refuses(t, given{name: name, p: p})
			trivial.refuses(t, given{name: name, p: p})
		}
	}
}

// P25.2: corrections by hand: the first string wins.
func TestCorrection(t *testing.T) {
	for _, c := range []struct {
		name     string
		syndrome []int
		wanted   string
	}{
		{"bit", []int{0, 0}, "+III"},
		{"bit", []int{1, 1}, "+IXI"},
		{"bit", []int{0, 1}, "+IIX"},
		{"sign", []int{1, 1}, "+IZI"},
		{"sign", []int{1, 0}, "+ZII"},
		{"five", []int{1, 0, 1, 0}, "+ZIIII"},
		{"five", []int{1, 0, 1, 1}, "+YIIII"},
		{"steane", []int{1, 1, 1, 1, 1, 1}, "+IIIIIIY"},
		{"steane", []int{0, 0, 0, 0, 0, 0}, "+IIIIIII"},
		{"surface", []int{0, 0, 1, 0, 0, 0, 0, 0}, "+ZIIIIIIII"},
		{"shor", []int{0, 0, 0, 0, 0, 0, 1, 1}, "+IIIZIIIII"},
		{"shor", []int{0, 0, 0, 0, 0, 0, 0, 1}, "+IIIIIIZII"},
		{"shor", []int{0, 0, 1, 1, 0, 0, 1, 1}, "+IIIIYIIII"},
	} {
		correction.want(t, given{name: c.name, syndrome: c.syndrome}, told{p: read(c.wanted), flag: true})
	}
	for name, unknown := range map[string][]int{"steane": {1, 0, 0, 0, 1, 0}, "surface": {1, 1, 1, 1, 1, 1, 1, 1}, "shor": {1, 0, 1, 0, 1, 0, 0, 0}} {
		correction.want(t, given{name: name, syndrome: unknown}, told{flag: false})
	}
}

// P25.2, P25.6: of all syndromes of all codes.
func TestSyndromes(t *testing.T) {
	known := map[string]int{}
	for _, name := range names() {
		for _, l := range syndromes(len(books()[name].stabilizers)) {
			correction.wantSlow(t, given{name: name, syndrome: l})
			leastOf.wantSlow(t, given{name: name, syndrome: l})
			if correction.answer(t, given{name: name, syndrome: l}).flag {
				known[name]++
			}
		}
	}
	for name, wanted := range map[string]int{"bit": 4, "sign": 4, "five": 16, "steane": 22, "shor": 22} {
		if known[name] != wanted {
			t.Errorf("%s knows %d syndromes, not %d", name, known[name], wanted)
		}
	}
}

// P25.2, P25.6: numbers that are no syndrome are refused.
func TestWrongSyndromes(t *testing.T) {
	for _, name := range names() {
		for _, l := range wrongSyndromes(len(books()[name].stabilizers)) {
			correction.refuses(t, given{name: name, syndrome: l})
			leastOf.refuses(t, given{name: name, syndrome: l})
		}
	}
}

// P25.6: by hand: the fewest letters, then the places, then X ahead of Y ahead of Z.
func TestLeast(t *testing.T) {
	for _, c := range []struct {
		name     string
		syndrome []int
		wanted   string
	}{
		{"bit", []int{0, 0}, "+III"},
		{"bit", []int{1, 0}, "+XII"},
		{"sign", []int{1, 0}, "+YII"},
		{"sign", []int{0, 1}, "+IIY"},
		{"five", []int{0, 0, 0, 1}, "+XIIII"},
		{"steane", []int{1, 0, 0, 0, 1, 0}, "+IXIZIII"},
		{"shor", []int{0, 0, 0, 0, 0, 0, 1, 1}, "+IIIZIIIII"},
		{"shor", []int{1, 0, 1, 0, 0, 0, 0, 0}, "+XIIXIIIII"},
		{"shor", []int{1, 0, 1, 0, 1, 0, 0, 0}, "+XIIXIIXII"},
		{"shor", []int{1, 0, 1, 0, 0, 0, 1, 0}, "+YIIXIIIII"},
	} {
		leastOf.want(t, given{name: c.name, syndrome: c.syndrome}, told{p: read(c.wanted)})
	}
}

// P25.2: the distances, and the chapter's of all strings.
func TestDistance(t *testing.T) {
	for name, wanted := range map[string]int{"bit": 1, "sign": 1, "five": 3, "steane": 3, "surface": 3, "shor": 3} {
		distance.want(t, given{name: name}, told{n: wanted})
		distance.wantSlow(t, given{name: name})
	}
}
