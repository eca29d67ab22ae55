package fuse_test

import (
	"math/rand"
	"slices"
	"testing"

	"phasor/api"
	"phasor/run"
)

// wantRun holds a run against the slow one, its errors, too.
func wantRun(t *testing.T, what string, c api.Circuit, k int, us []float64) {
	t.Helper()
	wanted, e := slowRun(t, c, k, us)
	if e != api.OK {
		wantNoRun(t, what, c, k, us, e)
	} else if x := come(t, c, k, us...); !sameResult(x, wanted) {
		t.Fatalf("%s by %d: %v, not %v", what, k, x, wanted)
	}
}

// someNumbers are enough for a circuit; or too few, or with one that is refused.
func someNumbers(chance *rand.Rand, c api.Circuit) []float64 {
	many, l := measurements(c), refusedNumbers()
	us := numbers(chance, many+chance.Intn(3))
	switch {
	case many > 0 && chance.Intn(4) == 0:
		us = us[:chance.Intn(many)]
	case len(us) > 0 && chance.Intn(4) == 0:
		us[chance.Intn(len(us))] = l[chance.Intn(len(l))]
	}
	return us
}

// P16.4: circuits at chance by each k, with enough numbers, with too few, with one that is refused; what is handed in is not changed.
func TestRun(t *testing.T) {
	chance := rand.New(rand.NewSource(1610))
	for range 300 {
		c := wish{qubits: 1 + chance.Intn(6), bits: chance.Intn(4), ops: chance.Intn(40), halves: 40, measures: 40}.drawn(chance)
		us := someNumbers(chance, c)
		ahead, before := deep(c), slices.Clone(us)
		for k := 1; k <= 6; k++ {
			wantRun(t, "at chance", c, k, us)
		}
		if !sameCircuit(c, ahead) || !slices.EqualFunc(us, before, sameFloat) {
			t.Fatal("an argument was changed")
		}
	}
}

// P16.4: where amplitudes are rounded, it is to be seen which gates went together, and that no others did: each longest row by its Blocks, the rest plainly.
func TestRunRounds(t *testing.T) {
	chance := rand.New(rand.NewSource(1611))
	var unlike [7]int
	for range 8 {
		c := mixing(chance, 1200)
		for _, at := range []int{1190, 1187, 1150, 1100, 1099, 900} {
			op := []api.Op{barrier(0), when(0, 0, do(api.GateV, 1)), when(1, 1, do(api.GateX, 1)), measure(0, 1), reset(2), barrier(1, 2)}[chance.Intn(6)]
			c.Ops = slices.Insert(c.Ops, at, op)
		}
		us := numbers(chance, 6)
		plain, e := run.Run(c, us)
		for k := 1; k <= 6; k++ {
			wantRun(t, "rounded", c, k, us)
			if e == api.OK && !sameResult(plain, come(t, c, k, us...)) {
				unlike[k]++
			}
		}
	}
	if slices.Contains(unlike[2:], 0) {
		t.Error("nothing was rounded:", unlike)
	}
}

// P16.4: by hand: the log tells places of the whole circuit, numbers are used one behind the other, and what is left over is not looked at.
func TestRunByHand(t *testing.T) {
	c := of(2, 3, do(api.GateV, 0), do(api.GateV, 0), measure(0, 2), barrier(0), reset(0), measure(1, 0), when(2, 1, do(api.GateW, 1)), do(api.GateX, 0), when(2, 0, do(api.GateX, 1)), measure(1, 1), barrier(1))
	wanted := api.Result{
		State: []complex128{0, 0.5 + 0.5i, 0, 0},
		Bits:  []int{0, 0, 1},
		Log: []api.Outcome{
			{Op: 2, Qubit: 0, Bit: 2, Value: 1, One: 1},
			{Op: 4, Qubit: 0, Bit: -1, Value: 1, One: 1},
			{Op: 5, Qubit: 1, Bit: 0, Zero: 1},
			{Op: 9, Qubit: 1, Bit: 1, Zero: 0.5, One: 0.5},
		},
		Used: 4,
	}
	for k := 1; k <= 6; k++ {
		for _, us := range [][]float64{{0, 0, 0, 0.5}, {0.9, 0.1, 0.4, below}, {0, 0, 0, 0.75, nan, 7}} {
			if x := come(t, c, k, us...); !sameResult(x, wanted) {
				t.Errorf("by %d, %v: %v", k, us, x)
			}
		}
		if x := come(t, c, k, 0, 0, 0, 0.25); x.Log[3].Value != 1 || !slices.Equal(x.Bits, []int{0, 1, 1}) || !sameState(x.State, []complex128{0, 0, 0, 0.5 + 0.5i}) {
			t.Errorf("by %d: %v", k, x)
		}
		for _, us := range [][]float64{nil, {}, make([]float64, 3, 4), {0, 0, 0}, {0, 0, 0, 1}, {nan, 0, 0, 0}, {0, -1, 0, 0}, {0, 0, inf, 0}} {
			wantNoRun(t, "wrong numbers", c, k, us, api.ErrRun)
		}
	}
}

// P16.4: circuits in which nothing, or all, fuses; of no qubits; walls alone.
func TestRunEdges(t *testing.T) {
	for k := 1; k <= 6; k++ {
		for _, w := range []struct {
			what   string
			c      api.Circuit
			us     []float64
			wanted api.Result
		}{
			{"no qubits", of(0, 2), []float64{7}, api.Result{State: []complex128{1}, Bits: []int{0, 0}}},
			{"no operations", of(2, 0), nil, api.Result{State: basis(2, 0)}},
			{"walls alone", of(1, 1, barrier(0), barrier(0)), []float64{nan}, api.Result{State: basis(1, 0), Bits: []int{0}}},
			{"gates alone", of(2, 0, do(api.GateX, 1), do(api.GateCX, 1, 0)), nil, api.Result{State: basis(2, 3)}},
			{"a measurement alone", of(1, 1, measure(0, 0)), []float64{0.5}, api.Result{State: basis(1, 0), Bits: []int{0}, Log: []api.Outcome{{Zero: 1}}, Used: 1}},
			{"a condition that holds", of(1, 1, when(0, 0, do(api.GateX, 0))), nil, api.Result{State: basis(1, 1), Bits: []int{0}}},
			{"a condition that does not", of(1, 1, when(0, 1, do(api.GateX, 0))), nil, api.Result{State: basis(1, 0), Bits: []int{0}}},
		} {
			if x := come(t, w.c, k, w.us...); !sameResult(x, w.wanted) {
				t.Errorf("%s by %d: %v, not %v", w.what, k, x, w.wanted)
			}
		}
	}
	long := of(12, 64, repeated(1024, do(api.GateX, 11), do(api.GateX, 10), measure(11, 63), barrier(0))...)
	x := come(t, long, 2, make([]float64, 1024)...)
	if x.Used != 1024 || x.Log[0].Value != 1 || x.Log[1023] != (api.Outcome{Op: 4094, Qubit: 11, Bit: 63, Zero: 1}) || !sameState(x.State, basis(12, 0)) {
		t.Error("the longest:", x.Used, x.Log[1023])
	}
}

// P16.4: New's errors ahead of k's, and k's ahead of a run's.
func TestRunRefuses(t *testing.T) {
	sizes := append(wrongSizes(), 1, 6)
	for _, us := range [][]float64{nil, {0.5}, {nan}} {
		for _, k := range sizes {
			for _, c := range wrongCircuits() {
				wantNoRun(t, "a wrong circuit", c, k, us, api.ErrCircuit)
			}
			for _, c := range wideCircuits() {
				wantNoRun(t, "a wide circuit", c, k, us, api.ErrState)
			}
		}
		for _, k := range wrongSizes() {
			for _, c := range []api.Circuit{of(0, 0), of(12, 0), of(1, 1, measure(0, 0)), of(1, 0, do(api.GateX, 0)), of(1, 1, when(0, 0, do(api.GateX, 0)))} {
				wantNoRun(t, "a wrong k", c, k, us, api.ErrFuse)
			}
		}
	}
}

// R3: what is answered is new memory, call by call.
func TestRunAnswersItsOwn(t *testing.T) {
	for _, c := range []api.Circuit{of(2, 2), of(2, 2, do(api.GateW, 0), measure(0, 0)), of(2, 2, measure(0, 0), do(api.GateW, 0), reset(0), barrier(0))} {
		us := []float64{0.25, 0.25}
		x, y := come(t, c, 2, us...), come(t, c, 2, us...)
		wanted, _ := slowRun(t, c, 2, us)
		x.State[0], x.Bits[0] = 9, 9
		for i := range x.Log {
			x.Log[i] = api.Outcome{Op: 9}
		}
		if !sameResult(y, wanted) || !sameResult(come(t, c, 2, us...), wanted) {
			t.Error("memory is shared:", y)
		}
	}
}
