package run_test

import (
	"slices"
	"testing"

	"phasor/api"
	"phasor/run"
)

// The chapter's examples, as they stand there.

func TestExampleOne(t *testing.T) {
	wantResult(t, "Q", come(t, bell(), 0.3, 0.9), api.Result{
		Bits:  []int{1, 1},
		Log:   []api.Outcome{{Op: 2, Qubit: 0, Bit: 0, Value: 1, Zero: 0.5, One: 0.5}, {Op: 3, Qubit: 1, Bit: 1, Value: 1, Zero: 0, One: 0.5}},
		Used:  2,
		State: []complex128{0, 0, 0, 0.5 + 0.5i},
	})
}

func TestExampleTwo(t *testing.T) {
	if x := come(t, bell(), 0.5, 0); !slices.Equal(x.Bits, []int{0, 0}) {
		t.Error("0.5 is not less:", x.Bits)
	}
	for _, us := range [][]float64{{0.3}, {1, 0}, {nan, 0}} {
		x, e := run.Run(bell(), us)
		wantNothing(t, "Q", x, e, api.ErrRun)
	}
}

func TestExampleThree(t *testing.T) {
	wantBranches(t, "Q", bell(),
		api.Branch{Values: []int{0, 0}, Weight: 0.5, Bits: []int{0, 0}, State: []complex128{0.5 + 0.5i, 0, 0, 0}},
		api.Branch{Values: []int{1, 1}, Weight: 0.5, Bits: []int{1, 1}, State: []complex128{0, 0, 0, 0.5 + 0.5i}})
}

func TestExampleFour(t *testing.T) {
	x := come(t, of(1, 0, do(api.GateX, 0), reset(0)), 0)
	wantResult(t, "reset", x, api.Result{Log: []api.Outcome{{Op: 1, Qubit: 0, Bit: -1, Value: 1, Zero: 0, One: 1}}, Used: 1, State: []complex128{1, 0}})
}

func TestExampleFive(t *testing.T) {
	x := come(t, of(1, 1, measure(0, 0), when(0, 0, do(api.GateX, 0))), 0.7)
	wantResult(t, "a condition", x, api.Result{Bits: []int{0}, Log: []api.Outcome{{Zero: 1}}, Used: 1, State: []complex128{0, 1}})
}

func TestExampleSix(t *testing.T) {
	m := from(t, of(1, 1, measure(0, 0)), []complex128{0, 0}, []int{0})
	if used, e := m.Step(0.5); used || e != api.ErrRun {
		t.Error("weight 0:", used, e)
	}
}

func TestExampleSeven(t *testing.T) {
	if m, e := run.New(of(13, 0)); m != nil || e != api.ErrState {
		t.Error("13 qubits:", e)
	}
	if m, e := run.New(of(2, 0, do(api.GateX, 2))); m != nil || e != api.ErrCircuit {
		t.Error("no such qubit:", e)
	}
}

func TestExampleEight(t *testing.T) {
	m := machine(t, of(1, 0))
	if used, e := m.Step(0.5); used || e != api.ErrRun {
		t.Error("Step at the end:", used, e)
	}
	if op, ok := m.Next(); ok || !sameOp(op, api.Op{}) {
		t.Error("Next at the end:", op, ok)
	}
}

func TestExampleNine(t *testing.T) {
	wantResult(t, "nothing to do", come(t, of(1, 0), 7), api.Result{State: []complex128{1, 0}})
}

func TestExampleTen(t *testing.T) {
	if m, e := run.From(of(1, 1), []complex128{1, 0}, []int{2}); m != nil || e != api.ErrRun {
		t.Error("a bit that is 2:", e)
	}
}

func TestExampleEleven(t *testing.T) {
	wantTally(t, "Q", bell(), api.Count{Bits: []int{0, 0}, Weight: 0.5}, api.Count{Bits: []int{1, 1}, Weight: 0.5})
	wantTally(t, "no measurement", of(2, 3, do(api.GateW, 0)), api.Count{Bits: []int{0, 0, 0}, Weight: 1})
}
