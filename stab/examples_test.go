package stab_test

import (
	"slices"
	"testing"

	"phasor/api"
	"phasor/stab"
)

// The chapter's examples, as they stand there.

func TestExampleOne(t *testing.T) {
	m := machine(t, bell())
	if used, e := m.Run([]float64{0.3, 0.9}); used != 2 || e != api.OK {
		t.Error("Run:", used, e)
	}
	if !slices.Equal(m.Bits(), []int{1, 1}) || m.Open() != 1 || m.At() != 4 {
		t.Error(m.Bits(), m.Open(), m.At())
	}
	if l := m.Log(); !sameLog(l, []api.Outcome{{Op: 2, Qubit: 0, Bit: 0, Value: 1, Zero: 0.5, One: 0.5}, {Op: 3, Qubit: 1, Bit: 1, Value: 1, Zero: 0, One: 1}}) {
		t.Error(l)
	}
	if a := m.Tableau(); !slices.Equal(a.Stab, read("-ZI", "+ZZ")) {
		t.Error(a.Stab)
	}
	if used, e := machine(t, bell()).Run([]float64{0.3}); used != 1 || e != api.ErrStab {
		t.Error("too few:", used, e)
	}
}

func TestExampleTwo(t *testing.T) {
	for _, c := range []struct {
		of     api.Tableau
		wanted []complex128
	}{
		{fresh(1), []complex128{1, 0}},
		{ended(t, of(1, 0, do(api.GateW, 0))).Tableau(), []complex128{0.5, 0.5}},
		{table("-Z", "+X"), []complex128{0, 1}},
	} {
		if s, e := stab.State(c.of); e != api.OK || !sameState(s, c.wanted) {
			t.Error(c.of, s, e)
		}
	}
	if a := ended(t, of(1, 0, do(api.GateW, 0))).Tableau(); !slices.Equal(a.Stab, read("+X")) {
		t.Error(a.Stab)
	}
}

func TestExampleThree(t *testing.T) {
	if m, e := stab.New(of(3, 0, do(api.GateCCX, 0, 1, 2))); m != nil || e != api.ErrStab {
		t.Error("ccx:", e)
	}
	if used, e := machine(t, of(1, 1, measure(0, 0))).Step(1); used || e != api.ErrStab {
		t.Error("Step(1):", used, e)
	}
}
