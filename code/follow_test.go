package code_test

import (
	"math"
	"math/rand"
	"testing"

	"phasor/api"
	"phasor/code"
	"phasor/gate"
	"phasor/noise"
	"phasor/pauli"
	"phasor/run"
	"phasor/state"
	"phasor/tableau"
)

// singles are the strings of one letter that a code corrects.
func singles(b book) []api.Pauli {
	var l []api.Pauli
	for q := range b.n {
		for _, letter := range b.corrects {
			w := []byte(wordOf(api.Pauli{N: b.n}).letters)
			w[q] = letter[0]
			l = append(l, word{letters: string(w)}.string())
		}
	}
	return l
}

// P25.9, W7: any one error is taken back, bit by bit, but for a power of i.
func TestErrorsAreTakenBack(t *testing.T) {
	chance := rand.New(rand.NewSource(2504))
	for _, name := range names() {
		b := books()[name]
		for i := range 14 {
			zero, one := exact(chance, i)
			s := encode.answer(t, given{name: name, zero: zero, one: one}).s
			for _, p := range singles(b) {
				p.Phase = chance.Intn(4)
				told := correct.answer(t, given{name: name, s: struck(t, p, s)})
				if k := state.Phase(told.s, s); k < 0 || !sameState(told.s, turned(s, k)) {
					t.Fatalf("%s of %v and %v: %v is not taken back: %v, not %v", name, zero, one, p, told.s, s)
				}
			}
		}
	}
}

// turned is a state turned, its noughts without a sign.
func turned(s []complex128, k int) []complex128 {
	l, _ := state.Turn(s, k)
	l, _ = state.Clean(l)
	return l
}

// P25.9: stabilizers commute with one another and with the logical strings, which do not commute; so do what Concat tells.
func TestWhatCommutes(t *testing.T) {
	for _, name := range names() {
		l := stabilizers.answer(t, given{name: name}).strings
		pair := logical.answer(t, given{name: name})
		wantCommuting(t, name, l, pair.p, pair.q)
		for _, inner := range names() {
			if code.Qubits(name)*code.Qubits(inner) <= api.MaxWires {
				told := concat.answer(t, given{name: name, inner: inner})
				wantCommuting(t, name+" of "+inner, told.strings, told.p, told.q)
			}
		}
	}
}

func wantCommuting(t *testing.T, what string, l []api.Pauli, x, z api.Pauli) {
	t.Helper()
	for _, p := range l {
		for _, q := range append(append([]api.Pauli{}, l...), x, z) {
			if !commute(t, p, q) {
				t.Errorf("%s: %v and %v do not commute", what, p, q)
			}
		}
	}
	if commute(t, x, z) {
		t.Errorf("%s: both logical strings commute", what)
	}
}

// P25.9: Least has the syndrome, and no more letters than Correction; where both are, of a code that corrects all letters, they part in what is trivial.
func TestLeastAndCorrection(t *testing.T) {
	for _, name := range names() {
		b := books()[name]
		for _, l := range syndromes(len(b.stabilizers)) {
			p := leastOf.answer(t, given{name: name, syndrome: l}).p
			syndrome.want(t, given{name: name, p: p}, told{syndrome: l})
			known := correction.answer(t, given{name: name, syndrome: l})
			if !known.flag {
				continue
			}
			syndrome.want(t, given{name: name, p: known.p}, told{syndrome: l})
			if pauli.Weight(p) > pauli.Weight(known.p) {
				t.Errorf("%s, %v: %v has more letters than %v", name, l, p, known.p)
			}
			if len(b.corrects) == 3 {
				trivial.want(t, given{name: name, p: product(t, p, known.p)}, told{flag: true})
			}
		}
	}
}

// P25.9: what Lift tells multiplies as the gate does.
func TestLiftIsAGate(t *testing.T) {
	for _, name := range names() {
		for _, k := range kinds() {
			told := lift.answer(t, given{name: name, kind: k})
			if !told.flag {
				continue
			}
			if commute(t, told.p, told.q) || !pauli.Hermitian(told.p) || !pauli.Hermitian(told.q) {
				t.Errorf("%s, gate %d: %v and %v", name, k, told.p, told.q)
			}
			back := lift.answer(t, given{name: name, kind: gate.Inverse(k)})
			if !back.flag || through(t, told.p, back) != read("+X") || through(t, told.q, back) != read("+Z") {
				t.Errorf("%s, gate %d and its inverse: %v, %v, and then %v, %v", name, k, told.p, told.q, back.p, back.q)
			}
		}
	}
}

// through is a string of one qubit of which X and Z become what was told.
func through(t *testing.T, p api.Pauli, images told) api.Pauli {
	t.Helper()
	whole := api.Pauli{N: 1, Phase: (p.Phase + int(p.X&p.Z)) % 4}
	if p.X == 1 {
		whole = product(t, whole, images.p)
	}
	if p.Z == 1 {
		whole = product(t, whole, images.q)
	}
	return whole
}

// P25.9: the Syndrome of a product is the sum of both, modulo 2.
func TestSyndromeOfAProduct(t *testing.T) {
	chance := rand.New(rand.NewSource(2505))
	for _, name := range names() {
		for range 300 {
			p, q := anyString(chance, code.Qubits(name)), anyString(chance, code.Qubits(name))
			a, b := syndrome.answer(t, given{name: name, p: p}).syndrome, syndrome.answer(t, given{name: name, p: q}).syndrome
			for i := range a {
				a[i] = (a[i] + b[i]) % 2
			}
			syndrome.want(t, given{name: name, p: product(t, p, q)}, told{syndrome: a})
		}
	}
}

// P25.9: what Read says of a string on an encoded state is the string's syndrome.
func TestReadOfErrors(t *testing.T) {
	chance := rand.New(rand.NewSource(2506))
	for _, name := range names() {
		for i := range 60 {
			zero, one := exact(chance, i)
			if zero == 0 && one == 0 {
				continue
			}
			p := anyString(chance, code.Qubits(name))
			s := encode.answer(t, given{name: name, zero: zero, one: one}).s
			look.want(t, given{name: name, s: struck(t, p, s)}, syndrome.answer(t, given{name: name, p: p}))
		}
	}
}

// P25.9: what is decoded is what was encoded, times the weight of an encoded 0, exactly.
func TestDecodeOfEncode(t *testing.T) {
	chance := rand.New(rand.NewSource(2507))
	weights := map[string]float64{"bit": 1, "sign": 0.125, "five": 0x1p-4, "steane": 0.125, "surface": 0x1p-4, "shor": 0.125}
	for _, name := range names() {
		weight, e := state.Weight(encode.answer(t, given{name: name, zero: 1}).s)
		if e != api.OK || weight != weights[name] {
			t.Errorf("%s: weight %v, not %v", name, weight, weights[name])
		}
		for i := range 40 {
			zero, one := exact(chance, i)
			s := encode.answer(t, given{name: name, zero: zero, one: one}).s
			told := decode.answer(t, given{name: name, s: s})
			if told.zero != scaled(zero, weight) || told.one != scaled(one, weight) {
				t.Errorf("%s of %v, %v: %v, %v", name, zero, one, told.zero, told.one)
			}
		}
	}
}

func scaled(z complex128, by float64) complex128 { return complex(real(z)*by, imag(z)*by) }

// P25.3: an encoded state is left as it is by all stabilizers, and turned by the logical strings as one qubit is by X and Z.
func TestLogicalStringsTurnWhatIsEncoded(t *testing.T) {
	chance := rand.New(rand.NewSource(2508))
	for _, name := range names() {
		pair := logical.answer(t, given{name: name})
		for i := range 20 {
			zero, one := exact(chance, i)
			s := encode.answer(t, given{name: name, zero: zero, one: one}).s
			for _, p := range stabilizers.answer(t, given{name: name}).strings {
				if !sameState(struck(t, p, s), s) {
					t.Errorf("%s: %v turns %v", name, p, s)
				}
			}
			encode.want(t, given{name: name, zero: one, one: zero}, told{s: struck(t, pair.p, s)})
			encode.want(t, given{name: name, zero: zero, one: -one}, told{s: struck(t, pair.q, s)})
		}
	}
}

// P25.5: the state of the tableau is the encoded 0: what is measured of it may be just what has weight there.
func TestTableauIsTheEncodedNought(t *testing.T) {
	for _, name := range names() {
		made := tableauOf.answer(t, given{name: name}).t
		s := encode.answer(t, given{name: name, zero: 1}).s
		for q := range made.N {
			var weights [2]float64
			for k, z := range s {
				weights[k>>q&1] += real(z) * real(z)
			}
			wanted := 2
			if weights[0] == 0 {
				wanted = 1
			} else if weights[1] == 0 {
				wanted = 0
			}
			if odds, e := tableau.Odds(made, q); e != api.OK || odds != wanted {
				t.Errorf("%s, qubit %d: odds %d, error %d, weights %v", name, q, odds, e, weights)
			}
		}
	}
}

// W7: an error that strikes a circuit of idle qubits is found in the state that the machine comes to.
func TestErrorsInARun(t *testing.T) {
	for _, name := range names() {
		b := books()[name]
		s := encode.answer(t, given{name: name, zero: 0.5, one: 0.25 - 0.5i}).s
		for _, p := range singles(b) {
			c, e := noise.Insert(api.Circuit{Qubits: b.n}, []api.Slip{{P: p}})
			if e != api.OK {
				t.Fatal(e)
			}
			m, e := run.From(c, s, nil)
			if e != api.OK {
				t.Fatal(e)
			}
			if _, e := m.Run(nil); e != api.OK {
				t.Fatal(e)
			}
			mended := correct.answer(t, given{name: name, s: m.State()}).s
			if state.Phase(mended, s) < 0 {
				t.Errorf("%s: %v is not taken back", name, p)
			}
			look.want(t, given{name: name, s: mended}, told{syndrome: make([]int, len(b.stabilizers))})
		}
	}
}

// FuzzCode holds the calls against the chapter written a second time.
func FuzzCode(f *testing.F) {
	f.Add("bit", "sign", uint64(1), uint64(2), 0, 3, []byte{1, 0}, 5, 1.0, 0.0, 0.5, -0.25, 3)
	f.Add("sign", "bit", uint64(5), uint64(2), 3, 3, []byte{1, 2}, 7, math.Pi, minus0, math.Inf(1), 1.0, 0)
	f.Add("five", "steane", uint64(16), uint64(31), 1, 5, []byte{0, 0, 0, 1}, 2, 0.0, 0.0, 0.0, 1e-320, 40)
	f.Add("steane", "shor", uint64(64), uint64(128), 4, 7, []byte{0, 0, 1, 1, 0, 1}, 10, 1e308, 1e308, 1e308, 1.0, 9)
	f.Add("surface", "surface", uint64(300), uint64(7), 2, 9, []byte{0, 0, 1, 1, 0, 1, 1, 0}, 11, 1.0, 2.0, 3.0, 4.0, 77)
	f.Add("shor", "", uint64(73), uint64(0), 2, 9, []byte{1, 0, 1, 0, 1, 0, 0, 0}, 5, 0.125, 0.0, 0.0, 0.0, -1)
	f.Fuzz(func(t *testing.T, name, inner string, x, z uint64, phase, n int, bits []byte, kind int, a, b, c, d float64, at int) {
		g := given{name: name, inner: inner, p: api.Pauli{N: n, X: x, Z: z, Phase: phase}, zero: complex(a, b), one: complex(c, d), kind: api.GateKind(kind)}
		for _, bit := range bits {
			g.syndrome = append(g.syndrome, int(bit))
		}
		g.s, _ = code.Encode(name, g.zero, g.one)
		if moved, e := pauli.Act(g.p, g.s); e == api.OK {
			g.s = moved
		}
		if at >= 0 && at < len(g.s) {
			g.s[at] += complex(d, a)
		}
		for _, f := range append(ofCode(), qubits) {
			if f.name != "Tableau" {
				f.wantSlow(t, g)
			}
		}
	})
}
