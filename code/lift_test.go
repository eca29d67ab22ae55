package code_test

import (
	"testing"

	"phasor/api"
	"phasor/pauli"
	"phasor/tableau"
)

// P25.5: right tableaux with the code's stabilizers, and the logical Z behind them.
func TestTableau(t *testing.T) {
	for _, name := range names() {
		b := books()[name]
		made := tableauOf.answer(t, given{name: name}).t
		if e := tableau.Check(made); e != api.OK || made.N != b.n {
			t.Errorf("%s: error %d, %v", name, e, made)
		}
		wanted := stringsOf(append(b.stabilizers[:len(b.stabilizers):len(b.stabilizers)], b.z))
		for i, p := range wanted {
			if made.Stab[i] != p {
				t.Errorf("%s: stabilizer %d: %v, not %v", name, i, made.Stab[i], p)
			}
		}
		s := encode.answer(t, given{name: name, zero: 1}).s
		for _, p := range made.Stab {
			if !sameState(struck(t, p, s), s) {
				t.Errorf("%s: %v does not leave the encoded 0 as it is", name, p)
			}
		}
	}
}

// P25.7: by hand.
func TestConcat(t *testing.T) {
	concat.want(t, given{name: "bit", inner: "bit"}, told{
		strings: all("+ZZIIIIIII", "+IZZIIIIII", "+IIIZZIIII", "+IIIIZZIII", "+IIIIIIZZI", "+IIIIIIIZZ", "+ZIIZIIIII", "+IIIZIIZII"),
		p:       read("+XXXXXXXXX"),
		q:       read("+ZIIIIIIII"),
	})
	concat.want(t, given{name: "bit", inner: "sign"}, told{
		strings: all("+XXIIIIIII", "+IXXIIIIII", "+IIIXXIIII", "+IIIIXXIII", "+IIIIIIXXI", "+IIIIIIIXX", "+XIIXIIIII", "+IIIXIIXII"),
		p:       read("+ZZZZZZZZZ"),
		q:       read("+XIIIIIIII"),
	})
	concat.want(t, given{name: "sign", inner: "bit"}, told{
		strings: all("+ZZIIIIIII", "+IZZIIIIII", "+IIIZZIIII", "+IIIIZZIII", "+IIIIIIZZI", "+IIIIIIIZZ", "+XXXXXXIII", "+IIIXXXXXX"),
		p:       read("+ZIIZIIZII"),
		q:       read("+XXXIIIIII"),
	})
	wide := concat.answer(t, given{name: "five", inner: "bit"})
	if l := wide.strings; len(l) != 14 || l[10] != read("+XXXZIIZIIXXXIII") || l[13] != read("+ZIIXXXIIIXXXZII") {
		t.Error(l)
	}
}

// P25.7: of all codes in all codes; above 64 qubits they are refused.
func TestConcats(t *testing.T) {
	for _, outer := range names() {
		for _, inner := range append(names(), noNames()...) {
			concat.wantSlow(t, given{name: outer, inner: inner})
		}
	}
	for _, pair := range [][2]string{{"surface", "steane"}, {"steane", "shor"}} {
		if wide := concat.answer(t, given{name: pair[0], inner: pair[1]}); len(wide.strings) != 62 || wide.p.N != 63 {
			t.Error(pair, wide)
		}
	}
	for _, pair := range [][2]string{{"surface", "shor"}, {"shor", "shor"}, {"surface", "surface"}, {"shor", "surface"}} {
		concat.refuses(t, given{name: pair[0], inner: pair[1]})
	}
}

// P25.8: by hand.
func TestLift(t *testing.T) {
	for _, c := range []struct {
		name string
		kind api.GateKind
		x, z string
	}{
		{"bit", api.GateI, "+X", "+Z"},
		{"bit", api.GateX, "+X", "-Z"},
		{"bit", api.GateZ, "-X", "+Z"},
		{"bit", api.GateY, "-X", "-Z"},
		{"bit", api.GateS, "-Y", "+Z"},
		{"bit", api.GateSdg, "+Y", "+Z"},
		{"sign", api.GateX, "-X", "+Z"},
		{"sign", api.GateV, "-Y", "+Z"},
		{"five", api.GateY, "-X", "-Z"},
		{"steane", api.GateSdg, "+Y", "+Z"},
		{"steane", api.GateV, "+X", "+Y"},
		{"steane", api.GateW, "-Z", "+X"},
		{"steane", api.GateWdg, "+Z", "-X"},
		{"surface", api.GateX, "+X", "-Z"},
		{"shor", api.GateX, "-X", "+Z"},
		{"shor", api.GateZ, "+X", "-Z"},
	} {
		lift.want(t, given{name: c.name, kind: c.kind}, told{p: read(c.x), q: read(c.z), flag: true})
	}
	for name, k := range map[string]api.GateKind{"bit": api.GateV, "sign": api.GateS, "five": api.GateW, "surface": api.GateW, "shor": api.GateS} {
		lift.want(t, given{name: name, kind: k}, told{})
	}
}

// P25.8: by all gates of one qubit, and by none.
func TestLifts(t *testing.T) {
	for _, name := range names() {
		for _, k := range kinds() {
			lift.wantSlow(t, given{name: name, kind: k})
		}
		for _, k := range wrongKinds() {
			lift.refuses(t, given{name: name, kind: k})
		}
	}
}

// P25.8: what a gate does to all is the same on amplitudes: of what is encoded, the string that Lift tells, kept, is what becomes of the logical one.
func TestLiftOnStates(t *testing.T) {
	for _, name := range names() {
		b := books()[name]
		for _, k := range kinds() {
			told := lift.answer(t, given{name: name, kind: k})
			if !told.flag {
				continue
			}
			s := encode.answer(t, given{name: name, zero: 0.5 + 0.25i, one: -0.75i}).s
			for _, pair := range [][2]word{{b.x, wordOf(told.p)}, {b.z, wordOf(told.q)}} {
				image := pair[0].string()
				for q := range b.n {
					image, _ = pauli.Through(image, k, []int{q})
				}
				if !sameState(struck(t, image, s), struck(t, b.kept(pair[1]).string(), s)) {
					t.Errorf("%s, gate %d: %v becomes %v, which is not %v", name, k, pair[0], image, pair[1])
				}
			}
		}
	}
}
