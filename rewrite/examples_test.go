package rewrite_test

import (
	"slices"
	"testing"

	"phasor/api"
	"phasor/rewrite"
)

// The chapter's examples, as they stand there.

func TestExampleOne(t *testing.T) {
	cancel.wantText(t, "x 0; s 1; x 0", "s 1")
	merge.wantText(t, "s 0; s 0", "z 0")
	simplify.wantText(t, "s 0; s 0; s 0; s 0", "")
	cancel.wantText(t, "cz 0 1; cz 1 0", "")
	for _, f := range shortening() {
		f.stays(t, "cx 0 1; cx 1 0")
	}
}

func TestExampleTwo(t *testing.T) {
	for _, f := range shortening() {
		f.stays(t, "x 0; measure 0 -> 0; x 0")
		f.stays(t, "sx 0; barrier 0; sxdg 0")
	}
}

func TestExampleThree(t *testing.T) {
	order.wantText(t, "x 1; x 0; cx 0 1", "x 0; x 1; cx 0 1")
	order.stays(t, "measure 1 -> 0; measure 0 -> 1")
}

func TestExampleFour(t *testing.T) {
	expand.wantText(t, "cz 0 1", "sy 1; cx 0 1; sydg 1")
}

func TestExampleFive(t *testing.T) {
	slide.wantText(t, "cx 0 1; cx 0 2; cx 0 1", "cx 0 2")
	slide.wantText(t, "x 1; cx 0 1; x 1", "cx 0 1")
	pack.wantText(t, "s 0; sx 0; s 1; sx 0", "s 0; x 0; s 1")
}

func TestExampleSix(t *testing.T) {
	if l, e := rewrite.Linear(of(2, 0, do(api.GateSwap, 0, 1))); !slices.Equal(l, []uint64{2, 1}) || e != api.OK {
		t.Errorf("Linear: %v %d", l, e)
	}
	if c, e := rewrite.Synth([]uint64{2, 1}); !sameCircuit(c, of(2, 0, ops(t, "cx 1 0; cx 0 1; cx 1 0")...)) || e != api.OK {
		t.Errorf("Synth: %v %d", c, e)
	}
	if c, e := rewrite.Synth([]uint64{1, 1}); !sameCircuit(c, api.Circuit{}) || e != api.ErrArg {
		t.Errorf("Synth of 1, 1: %v %d", c, e)
	}
}
