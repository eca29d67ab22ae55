package tableau_test

import (
	"slices"
	"testing"

	"phasor/api"
	"phasor/tableau"
)

// The chapter's examples, as they stand there.

func done(t *testing.T, a api.Tableau, k api.GateKind, qubits ...int) api.Tableau {
	t.Helper()
	b, e := tableau.Gate(a, k, qubits)
	if e != api.OK {
		t.Fatal("Gate", k, qubits, e)
	}
	return b
}

func begun(t *testing.T, n int) api.Tableau {
	t.Helper()
	a, e := tableau.New(n)
	if e != api.OK {
		t.Fatal("New", n, e)
	}
	return a
}

// made is the first example's tableau, by the calls.
func made(t *testing.T) api.Tableau {
	t.Helper()
	return done(t, done(t, begun(t, 2), api.GateW, 0), api.GateCX, 0, 1)
}

func TestExampleOne(t *testing.T) {
	a := made(t)
	want(t, "sy, cx", a, api.OK, of("+XX", "+ZZ", "-ZI", "+IX"))
	v, e := tableau.Odds(a, 0)
	wantNumber(t, "Odds of 0", v, e, 2, api.OK)
	b, e := tableau.Project(a, 0, 1)
	want(t, "Project", b, e, of("-ZI", "+ZZ", "+XX", "+IX"))
	v, e = tableau.Odds(b, 1)
	wantNumber(t, "Odds of 1", v, e, 1, api.OK)
	c, e := tableau.Project(b, 1, 0)
	wantNone(t, "Project of 1 to 0", c, e, api.ErrNothing)
}

func TestExampleTwo(t *testing.T) {
	a := made(t)
	l, e := tableau.Canon(a)
	if e != api.OK || !slices.Equal(l, readAll("+XX", "+ZZ")) {
		t.Error("Canon", l, e)
	}
	for text, wanted := range map[string]int{"-YY": 1, "+YY": -1, "+ZI": 0} {
		is, e := tableau.Member(a, read(text))
		wantNumber(t, "Member "+text, is, e, wanted, api.OK)
	}
	many, e := tableau.Cut(a, []int{0})
	wantNumber(t, "Cut", many, e, 1, api.OK)
}

func TestExampleThree(t *testing.T) {
	a, e := tableau.Gate(begun(t, 3), api.GateCCX, []int{0, 1, 2})
	wantNone(t, "ccx", a, e, api.ErrClifford)
	for _, twice := range []api.Tableau{of("+XX", "+XX", "-ZI", "+IX"), of("+XX", "+ZZ", "+IX", "+IX")} {
		if e := tableau.Check(twice); e != api.ErrTableau {
			t.Error("two strings that are one:", e)
		}
	}
}

func TestExampleFour(t *testing.T) {
	a, n, e := tableau.Force(begun(t, 1), read("+X"))
	want(t, "Force", a, e, of("+X", "+Z"))
	wantNumber(t, "Force", n, e, 1, api.OK)
	a, n, e = tableau.Force(begun(t, 1), read("-Z"))
	wantNone(t, "Force of -Z", a, e, api.ErrNothing)
	wantNumber(t, "Force of -Z", n, e, 0, api.ErrNothing)
	n, e = tableau.Overlap(begun(t, 2), made(t))
	wantNumber(t, "New and Bell's", n, e, 1, api.OK)
	left, e := tableau.Project(made(t), 0, 1)
	if e != api.OK {
		t.Fatal(e)
	}
	n, e = tableau.Overlap(made(t), left)
	wantNumber(t, "Bell's and what is left", n, e, 1, api.OK)
	n, e = tableau.Overlap(begun(t, 1), done(t, begun(t, 1), api.GateX, 0))
	wantNumber(t, "New and its x", n, e, -1, api.OK)
}
