package run_test

import (
	"math"
	"math/rand"
	"slices"
	"testing"

	"phasor/api"
	"phasor/run"
)

// wantBranches holds all branches of a circuit against these, twice.
func wantBranches(t *testing.T, what string, c api.Circuit, wanted ...api.Branch) {
	t.Helper()
	branches := run.Branches(c)
	for range 2 {
		got := slices.Collect(branches)
		if !slices.EqualFunc(got, wanted, sameBranch) {
			t.Fatalf("%s: %d branches %v, not %d, %v", what, len(got), got, len(wanted), wanted)
		}
	}
}

// P12.6: against all rows of values, tried one behind the other; with more halves than are exact, too.
func TestBranches(t *testing.T) {
	chance := rand.New(rand.NewSource(1206))
	for range 600 {
		w := wish{qubits: 1 + chance.Intn(4), bits: chance.Intn(4), ops: chance.Intn(30), halves: chance.Intn(40), measures: chance.Intn(8)}
		c := w.drawn(chance)
		wantBranches(t, "at chance", c, slowBranches(t, c)...)
	}
}

// P12.6: by hand: the earlier values turn slowest; what has no weight does not come; later gates hang on earlier values.
func TestBranchesByHand(t *testing.T) {
	branch := func(weight float64, bits []int, state []complex128, values ...int) api.Branch {
		return api.Branch{Values: values, Weight: weight, Bits: bits, State: state}
	}
	half := 0.5 + 0.5i
	wantBranches(t, "nothing", of(0, 0), branch(1, nil, []complex128{1}))
	wantBranches(t, "a gate", of(1, 2, do(api.GateX, 0)), branch(1, []int{0, 0}, []complex128{0, 1}))
	wantBranches(t, "a sure 1", of(1, 1, do(api.GateX, 0), measure(0, 0)), branch(1, []int{1}, []complex128{0, 1}, 1))
	wantBranches(t, "a sure reset", of(1, 1, do(api.GateX, 0), reset(0)), branch(1, []int{0}, []complex128{1, 0}, 1))
	wantBranches(t, "a reset", of(1, 1, do(api.GateW, 0), reset(0)), branch(0.5, []int{0}, []complex128{half, 0}, 0), branch(0.5, []int{0}, []complex128{half, 0}, 1))
	wantBranches(t, "one bit, two qubits", of(2, 1, do(api.GateHH, 0, 1), measure(1, 0), measure(0, 0)),
		branch(0.25, []int{0}, []complex128{0.5, 0, 0, 0}, 0, 0),
		branch(0.25, []int{1}, []complex128{0, 0.5, 0, 0}, 0, 1),
		branch(0.25, []int{0}, []complex128{0, 0, 0.5, 0}, 1, 0),
		branch(0.25, []int{1}, []complex128{0, 0, 0, 0.5}, 1, 1))
	wantBranches(t, "one measures no more", of(2, 2, do(api.GateW, 0), measure(0, 0), when(0, 1, do(api.GateV, 1)), measure(1, 1)),
		branch(0.5, []int{0, 0}, []complex128{half, 0, 0, 0}, 0, 0),
		branch(0.25, []int{1, 0}, []complex128{0, 0.5i, 0, 0}, 1, 0),
		branch(0.25, []int{1, 1}, []complex128{0, 0, 0, 0.5}, 1, 1))
}

// P12.6: nothing of what New refuses, and an iterator nevertheless.
func TestBranchesOfNothing(t *testing.T) {
	for i, c := range append(wrongCircuits(), wideCircuits()...) {
		branches := run.Branches(c)
		if branches == nil {
			t.Fatal("no iterator")
		}
		for b := range branches {
			t.Error("circuit", i, b)
		}
	}
}

// manyBranches has 16, of three qubits.
func manyBranches() api.Circuit {
	return of(3, 2, do(api.GateHH, 0, 1), do(api.GateW, 2), measure(2, 0), reset(0), when(0, 1, do(api.GateV, 1)), measure(1, 1), do(api.GateV, 0), measure(0, 0))
}

// P12.6: left early at each place, gone through again, and one ranging inside another.
func TestBranchesLeftEarly(t *testing.T) {
	c := manyBranches()
	wanted := slowBranches(t, c)
	if len(wanted) != 16 {
		t.Fatal(len(wanted), "branches")
	}
	branches := run.Branches(c)
	for stop := range wanted {
		seen := 0
		for b := range branches {
			if !sameBranch(b, wanted[seen]) {
				t.Error("branch", seen, b)
			}
			if seen++; seen == stop+1 {
				break
			}
		}
		if seen != stop+1 {
			t.Errorf("left at %d, seen %d", stop, seen)
		}
	}
	outer := 0
	for b := range branches {
		inner := 0
		for other := range branches {
			if !sameBranch(other, wanted[inner]) {
				t.Error("inside:", inner, other)
			}
			if inner++; inner > outer {
				break
			}
		}
		if !sameBranch(b, wanted[outer]) {
			t.Error("outside:", outer, b)
		}
		outer++
	}
}

// P12.6, R3: the circuit may be changed behind the call, and what is given by whoever ranges.
func TestBranchesKeepTheirOwn(t *testing.T) {
	c := manyBranches()
	wanted := slowBranches(t, c)
	branches := run.Branches(c)
	c.Ops[0].Gate, c.Ops[1].Qubits[0], c.Ops[2].Bit = api.GateCX, 1, 1
	c.Ops[7] = barrier(0)
	var kept []api.Branch
	for range 2 {
		i := 0
		for b := range branches {
			if !sameBranch(b, wanted[i]) {
				t.Fatal("behind changes:", i, b)
			}
			for k := range b.State {
				b.State[k] = 9
			}
			b.Values[0], b.Bits[0] = 9, 9
			kept = append(kept, b)
			i++
		}
	}
	for i, b := range kept {
		b.Values[1], b.Bits[1], b.State[0] = i, i, complex(float64(i), 0)
	}
	for i, b := range kept {
		if b.Values[1] != i || b.Bits[1] != i || b.State[0] != complex(float64(i), 0) {
			t.Error("memory of two branches is one:", i)
		}
	}
	// What is sure shares nothing, either.
	sure := run.Branches(of(1, 1))
	for b := range sure {
		b.State[0], b.Bits[0] = 9, 9
	}
	for b := range sure {
		if b.State[0] != 1 || b.Bits[0] != 0 {
			t.Error("the beginning was changed:", b)
		}
	}
}

// P12.6: the first of more branches than can be gone through, and a row of as many sure measurements as there may be.
func TestBranchesDeep(t *testing.T) {
	seen := 0
	for b := range run.Branches(of(1, 1, repeated(1000, do(api.GateW, 0), measure(0, 0))...)) {
		want := make([]int, 1000)
		if seen%2 == 1 {
			want[999] = 1
		}
		if seen > 1 {
			want[998] = 1
		}
		if !slices.Equal(b.Values, want) || b.Weight != math.Ldexp(1, -1000) {
			t.Error("deep:", b.Weight, b.Values[990:])
		}
		if seen++; seen == 4 {
			break
		}
	}
	n := 0
	for b := range run.Branches(of(12, 64, repeated(2048, measure(11, 63), reset(3))...)) {
		if len(b.Values) != 4096 || slices.Max(b.Values) != 0 || b.Weight != 1 || !sameState(b.State, basis(12, 0)) {
			t.Error("sure:", len(b.Values), b.Weight)
		}
		n++
	}
	if n != 1 {
		t.Error("sure:", n, "branches")
	}
}
