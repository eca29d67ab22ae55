package run_test

import (
	"math/rand"
	"slices"
	"testing"

	"phasor/api"
	"phasor/run"
)

func sameCount(a, b api.Count) bool {
	return slices.Equal(a.Bits, b.Bits) && sameFloat(a.Weight, b.Weight)
}

// wantTally holds a tally against these.
func wantTally(t *testing.T, what string, c api.Circuit, wanted ...api.Count) {
	t.Helper()
	if l, e := run.Tally(c); e != api.OK || !slices.EqualFunc(l, wanted, sameCount) {
		t.Errorf("%s: %v, error %d, not %v", what, l, e, wanted)
	}
}

// slowTally takes the branches one behind the other; each new row of bits is put ahead of the first that is greater, bits compared from the highest down.
func slowTally(branches []api.Branch) []api.Count {
	var l []api.Count
	for _, b := range branches {
		at, found := slices.BinarySearchFunc(l, b.Bits, func(x api.Count, bits []int) int {
			for i := len(bits) - 1; i >= 0; i-- {
				if x.Bits[i] != bits[i] {
					return x.Bits[i] - bits[i]
				}
			}
			return 0
		})
		if !found {
			l = slices.Insert(l, at, api.Count{Bits: slices.Clone(b.Bits)})
		}
		l[at].Weight = l[at].Weight + b.Weight
	}
	return l
}

// P12.8: circuits at chance.
func TestTally(t *testing.T) {
	chance := rand.New(rand.NewSource(1207))
	for range 600 {
		w := wish{qubits: 1 + chance.Intn(4), bits: chance.Intn(5), ops: chance.Intn(40), halves: chance.Intn(40), measures: chance.Intn(8)}
		if chance.Intn(4) == 0 {
			w.bits = 64
		}
		c := w.drawn(chance)
		wantTally(t, "at chance", c, slowTally(slowBranches(t, c))...)
	}
}

// P12.8: circuits that halve so often that weights are rounded: sums in another order than the branches' would be others.
func TestTallyRounds(t *testing.T) {
	chance := rand.New(rand.NewSource(1208))
	parted := 0
	for range 5 {
		c := of(4, 1)
		for range 4 {
			for range 300 {
				l := chance.Perm(4)
				c.Ops = append(c.Ops, do(api.GateHH, l[:2]...), do(api.GateW, l[3]), do(api.GateCCX, l[1:]...))
			}
			c.Ops = append(c.Ops, measure(chance.Intn(4), 0))
		}
		branches := slowBranches(t, c)
		wanted := slowTally(branches)
		wantTally(t, "rounded", c, wanted...)
		slices.Reverse(branches)
		if !slices.EqualFunc(wanted, slowTally(branches), sameCount) {
			parted++
		}
	}
	if parted == 0 {
		t.Error("no sum hangs on the order")
	}
}

// P12.8: by hand: the order of rows, with the highest bit there is; bits that are set twice; resets that set none.
func TestTallyByHand(t *testing.T) {
	count := func(weight float64, bits ...int) api.Count { return api.Count{Bits: bits, Weight: weight} }
	wantTally(t, "nothing", of(0, 0), count(1))
	wantTally(t, "no bits", of(1, 0, do(api.GateW, 0), reset(0)), count(1))
	wantTally(t, "two bits", of(2, 2, do(api.GateHH, 0, 1), measure(0, 1), measure(1, 0)), count(0.25, 0, 0), count(0.25, 1, 0), count(0.25, 0, 1), count(0.25, 1, 1))
	wantTally(t, "one bit twice", of(2, 1, do(api.GateHH, 0, 1), measure(0, 0), measure(1, 0)), count(0.5, 0), count(0.5, 1))
	wantTally(t, "a bit that is 1 alone", of(1, 3, do(api.GateX, 0), measure(0, 2)), count(1, 0, 0, 1))
	wantTally(t, "no row without a branch", of(2, 2, do(api.GateW, 0), do(api.GateCX, 0, 1), do(api.GateX, 1), measure(0, 0), measure(1, 1)), count(0.5, 1, 0), count(0.5, 0, 1))
	row := func(ones ...int) []int {
		l := make([]int, 64)
		for _, i := range ones {
			l[i] = 1
		}
		return l
	}
	wantTally(t, "the highest bits", of(2, 64, do(api.GateHH, 0, 1), measure(0, 63), measure(1, 0)), count(0.25, row()...), count(0.25, row(0)...), count(0.25, row(63)...), count(0.25, row(0, 63)...))
}

// P12.8: twelve measurements and resets together are tallied, thirteen are not, sure or not; gates and barriers do not count.
func TestTallyMany(t *testing.T) {
	for _, op := range []api.Op{measure(0, 0), reset(0)} {
		ops := append(repeated(12, op), repeated(50, do(api.GateX, 0), barrier(0))...)
		wantTally(t, "twelve", of(1, 1, ops...), api.Count{Bits: []int{0}, Weight: 1})
		for _, other := range []api.Op{measure(0, 0), reset(0)} {
			if l, e := run.Tally(of(1, 1, append(ops, other)...)); len(l) != 0 || e != api.ErrRun {
				t.Error("thirteen:", l, e)
			}
		}
	}
	c := of(12, 12)
	for q := range 12 {
		c.Ops = append(c.Ops, do(api.GateW, q))
	}
	for q := range 12 {
		c.Ops = append(c.Ops, measure(q, q))
	}
	l, e := run.Tally(c)
	if e != api.OK || len(l) != 4096 {
		t.Fatal("all rows:", len(l), e)
	}
	for k, x := range l {
		for i, b := range x.Bits {
			if b != k>>i&1 || x.Weight != 0x1p-12 {
				t.Fatal("row", k, x)
			}
		}
	}
	if l, e := run.Tally(of(12, 12, append(c.Ops, reset(0))...)); len(l) != 0 || e != api.ErrRun {
		t.Error("a thirteenth:", len(l), e)
	}
}

// P12.8: New's errors come first.
func TestTallyRefuses(t *testing.T) {
	for i, c := range wrongCircuits() {
		if l, e := run.Tally(c); len(l) != 0 || e != api.ErrCircuit {
			t.Error("circuit", i, e)
		}
	}
	for i, c := range wideCircuits() {
		if l, e := run.Tally(c); len(l) != 0 || e != api.ErrState {
			t.Error("wide circuit", i, e)
		}
	}
	if l, e := run.Tally(of(1, 1, append(repeated(13, measure(0, 0)), measure(0, 1))...)); len(l) != 0 || e != api.ErrCircuit {
		t.Error("too many, and wrong:", e)
	}
}

// R3: what is answered is new memory, row by row.
func TestTallyAnswers(t *testing.T) {
	l, _ := run.Tally(bell())
	l[0].Bits[0] = 9
	_ = append(l[0].Bits, 9)
	if !slices.Equal(l[1].Bits, []int{1, 1}) {
		t.Error("rows share memory:", l)
	}
	wantTally(t, "once more", bell(), api.Count{Bits: []int{0, 0}, Weight: 0.5}, api.Count{Bits: []int{1, 1}, Weight: 0.5})
}
