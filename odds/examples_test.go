package odds_test

import (
	"testing"

	"phasor/api"
	"phasor/odds"
	"phasor/state"
)

// The chapter's examples, as they stand there.

func example() []complex128 { return []complex128{0.5, 0.5i, 0, 0.5 + 0.5i} }

func TestExampleOne(t *testing.T) {
	s := example()
	if w, e := state.Weight(s); w != 1 || e != api.OK {
		t.Error("Weight", w, e)
	}
	zero, one, e := odds.Weigh(s, 0)
	wantFloats(t, "Weigh of 0", []float64{zero, one}, e, 0.25, 0.75)
	zero, one, e = odds.Weigh(s, 1)
	wantFloats(t, "Weigh of 1", []float64{zero, one}, e, 0.5, 0.5)
	l, e := odds.Marginal(s, []int{1, 0})
	wantFloats(t, "Marginal", l, e, 0.25, 0, 0.25, 0.5)
	l, e = odds.Marginal(s, nil)
	wantFloats(t, "Marginal by none", l, e, 1)
}

func TestExampleTwo(t *testing.T) {
	for _, c := range []struct {
		zero, one, u float64
		wanted       int
		e            api.Errno
	}{
		{0.25, 0.75, 0.75, 0, api.OK},
		{0.25, 0.75, 0.5, 1, api.OK},
		{1, 0, 0, 0, api.OK},
		{0, 1, 0.999, 1, api.OK},
		{0, 0, 0, 0, api.ErrOdds},
		{0.25, 0.75, 1, 0, api.ErrOdds},
	} {
		if v, e := odds.Choose(c.zero, c.one, c.u); v != c.wanted || e != c.e {
			t.Errorf("Choose of %v, %v, %v: %d, %d", c.zero, c.one, c.u, v, e)
		}
	}
}

func TestExampleThree(t *testing.T) {
	s := example()
	l, e := odds.Project(s, 0, 1)
	want(t, "Project", l, e, 0, 0.5i, 0, 0.5+0.5i)
	l, e = odds.Settle(s, 0, 1)
	want(t, "Settle", l, e, 0.5i, 0, 0.5+0.5i, 0)
	if k, e := odds.Sample(s, 0.25); k != 1 || e != api.OK {
		t.Error("Sample, 0.25", k, e)
	}
	if k, e := odds.Sample(s, 0.5); k != 3 || e != api.OK {
		t.Error("Sample, 0.5", k, e)
	}
}
