package pauli_test

import (
	"testing"

	"phasor/api"
	"phasor/pauli"
)

// The chapter's examples, as they stand there.

func read(t *testing.T, text string) api.Pauli {
	t.Helper()
	p, e := pauli.Parse(text)
	if e != api.OK {
		t.Fatal("Parse", text, e)
	}
	return p
}

func wantText(t *testing.T, what string, p api.Pauli, e api.Errno, wanted string) {
	t.Helper()
	if text, f := pauli.Print(p); text != wanted || e != api.OK || f != api.OK {
		t.Errorf("%s: %s, errors %d and %d, not %s", what, text, e, f, wanted)
	}
}

func TestExampleOne(t *testing.T) {
	for _, c := range [][3]string{{"+X", "+Z", "-iY"}, {"+Z", "+X", "+iY"}, {"+Y", "+Y", "+I"}} {
		p, e := pauli.Mul(read(t, c[0]), read(t, c[1]))
		wantText(t, "Mul of "+c[0]+" and "+c[1], p, e, c[2])
	}
	if is, e := pauli.Commute(read(t, "+XX"), read(t, "+ZZ")); !is || e != api.OK {
		t.Error("+XX, +ZZ", is, e)
	}
	if is, e := pauli.Commute(read(t, "+XI"), read(t, "+ZI")); is || e != api.OK {
		t.Error("+XI, +ZI", is, e)
	}
	p, e := pauli.Inverse(read(t, "+iX"))
	wantText(t, "Inverse", p, e, "-iX")
}

func TestExampleTwo(t *testing.T) {
	l, e := pauli.Act(read(t, "+Y"), []complex128{1, 0})
	wantRow(t, "Act of +Y", l, e, 0, 1i)
	l, e = pauli.Act(read(t, "+Z"), []complex128{0, 1})
	wantRow(t, "Act of +Z", l, e, 0, -1)
}

func TestExampleThree(t *testing.T) {
	for _, c := range []struct {
		p      string
		kind   api.GateKind
		qubits []int
		wanted string
	}{
		{"+X", api.GateS, []int{0}, "+Y"},
		{"+Y", api.GateS, []int{0}, "-X"},
		{"+Z", api.GateV, []int{0}, "-Y"},
		{"+Z", api.GateW, []int{0}, "+X"},
		{"+XI", api.GateCX, []int{0, 1}, "+XX"},
		{"+IZ", api.GateCX, []int{0, 1}, "+ZZ"},
		{"+XI", api.GateCZ, []int{0, 1}, "+XZ"},
	} {
		p, e := pauli.Through(read(t, c.p), c.kind, c.qubits)
		wantText(t, c.p, p, e, c.wanted)
	}
}

func TestExampleFour(t *testing.T) {
	l, e := pauli.Spectrum(api.Matrix{N: 2, E: []complex128{1, 0, 0, -1}})
	wantRow(t, "Spectrum of Z", l, e, 0, 0, 1, 0)
	l, e = pauli.Spectrum(api.Matrix{N: 2, E: []complex128{0, -1i, 1i, 0}})
	wantRow(t, "Spectrum of Y", l, e, 0, 0, 0, 1)
	m, e := pauli.Compose([]complex128{0, 1, 0, 0})
	wantRow(t, "Compose", m.E, e, 0, 1, 1, 0)
	if m.N != 2 {
		t.Error("Compose", m.N)
	}
	given := api.Pauli{N: 3, X: 5, Z: 4, Phase: 3}
	wantText(t, "Print", given, api.OK, "-iXIY")
	want(t, "Parse", read(t, "-iXIY"), api.OK, given)
	for _, text := range []string{"XX", "+A", "+-X"} {
		p, e := pauli.Parse(text)
		wantNone(t, text, p, e)
	}
	want(t, "no letters", read(t, "+"), api.OK, api.Pauli{})
}
