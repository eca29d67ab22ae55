package run_test

import (
	"math/big"
	"math/rand"
	"slices"
	"testing"

	"phasor/api"
	"phasor/circuit"
	"phasor/odds"
	"phasor/run"
	"phasor/state"
)

// total adds exactly.
func total(l ...float64) *big.Rat {
	sum := new(big.Rat)
	for _, x := range l {
		part := new(big.Rat)
		part.SetFloat64(x)
		sum.Add(sum, part)
	}
	return sum
}

// exactCircuit halves at most MaxHalves times.
func exactCircuit(chance *rand.Rand, qubits int) api.Circuit {
	w := wish{qubits: qubits, bits: chance.Intn(4), ops: chance.Intn(50), halves: 24, measures: chance.Intn(8)}
	return w.drawn(chance)
}

// wantWhole takes the weights of all branches to be together 1, as exact numbers and as floats.
func wantWhole(t *testing.T, c api.Circuit) {
	t.Helper()
	var l []float64
	sum := 0.0
	for b := range run.Branches(c) {
		l = append(l, b.Weight)
		sum += b.Weight
	}
	if sum != 1 || total(l...).Cmp(total(1)) != 0 {
		t.Errorf("branches weigh together %v", sum)
	}
}

// wantAmong takes what a run came to, to be one of the branches: that of its values.
func wantAmong(t *testing.T, c api.Circuit, us []float64) {
	t.Helper()
	x := come(t, c, us...)
	var values []int
	for _, o := range x.Log {
		values = append(values, o.Value)
	}
	found := 0
	for b := range run.Branches(c) {
		if !slices.Equal(b.Values, values) {
			continue
		}
		found++
		if !slices.Equal(b.Bits, x.Bits) || !sameState(b.State, x.State) {
			t.Error("a run's branch is another:", b, x)
		}
		if weight, e := state.Weight(x.State); e != api.OK || !sameFloat(weight, b.Weight) {
			t.Error("a run's branch weighs:", b.Weight, weight)
		}
	}
	if found != 1 {
		t.Error(found, "branches of one run")
	}
}

// P12.7: all branches are together the whole, and each run is one of them.
func TestBranchesFollow(t *testing.T) {
	chance := rand.New(rand.NewSource(1210))
	for n := 1; n <= 6; n++ {
		for range 60 {
			c := exactCircuit(chance, n)
			wantWhole(t, c)
			for range 3 {
				wantAmong(t, c, numbers(chance, measurements(c)))
			}
		}
	}
	for range 3 {
		c := exactCircuit(chance, 12)
		wantWhole(t, c)
		wantAmong(t, c, numbers(chance, measurements(c)))
	}
}

// P12.7: with numbers on a grid that parts all weights, each branch comes as often as it weighs.
func TestRunsComeAsTheyWeigh(t *testing.T) {
	c := of(2, 2, do(api.GateHH, 0, 1), do(api.GateS, 0), do(api.GateV, 0), measure(0, 0), do(api.GateCZ, 0, 1), do(api.GateW, 1), measure(1, 1))
	const grid = 16
	counts := map[[2]int]float64{}
	for i := range grid {
		for j := range grid {
			x := come(t, c, float64(i)/grid, float64(j)/grid)
			counts[[2]int{x.Log[0].Value, x.Log[1].Value}]++
		}
	}
	for b := range run.Branches(c) {
		if counts[[2]int(b.Values)] != b.Weight*grid*grid {
			t.Error(b.Values, b.Weight, counts)
		}
	}
}

// sideOdds is the weights of what some qubits are, summed over all branches.
func sideOdds(t *testing.T, c api.Circuit, qubits []int) []*big.Rat {
	t.Helper()
	sums := make([]*big.Rat, 1<<len(qubits))
	for m := range sums {
		sums[m] = new(big.Rat)
	}
	for b := range run.Branches(c) {
		l, e := odds.Marginal(b.State, qubits)
		if e != api.OK {
			t.Fatal("Marginal:", e)
		}
		for m, w := range l {
			sums[m].Add(sums[m], total(w))
		}
	}
	return sums
}

func wantOdds(t *testing.T, what string, got, wanted []*big.Rat) {
	t.Helper()
	if !slices.EqualFunc(got, wanted, func(a, b *big.Rat) bool { return a.Cmp(b) == 0 }) {
		t.Errorf("%s: %v, not %v", what, got, wanted)
	}
}

// without is a circuit with its measurements and resets of some qubits left out.
func without(c api.Circuit, qubits []int) api.Circuit {
	d := deep(c)
	d.Ops = slices.DeleteFunc(d.Ops, func(op api.Op) bool {
		return (op.Kind == api.OpMeasure || op.Kind == api.OpReset) && slices.Contains(qubits, op.Qubits[0])
	})
	return d
}

// P12.7: measurements and resets of qubits that nothing else touches behind may be left out: the other qubits' odds stay.
func TestMeasuringIsNoSignal(t *testing.T) {
	chance := rand.New(rand.NewSource(1211))
	for n := 2; n <= 7; n++ {
		for range 50 {
			l := chance.Perm(n)
			cut := 1 + chance.Intn(n-1)
			done, others := l[:cut], l[cut:]
			c := of(n, 3)
			w := wish{qubits: n, bits: 0, halves: 24, measures: 3}
			for range chance.Intn(20) {
				c.Ops = append(c.Ops, w.op(chance))
			}
			// Measurements of both sides ahead stay in both circuits, as gates follow them.
			c.Ops = append(c.Ops, measure(l[chance.Intn(n)], 0))
			for range chance.Intn(8) {
				c.Ops = append(c.Ops, w.gate(chance, l))
			}
			ahead := deep(c)
			for range chance.Intn(10) {
				switch chance.Intn(4) {
				case 0:
					c.Ops = append(c.Ops, measure(done[chance.Intn(cut)], 1))
				case 1:
					c.Ops = append(c.Ops, reset(done[chance.Intn(cut)]))
				case 2:
					c.Ops = append(c.Ops, measure(others[chance.Intn(len(others))], 2))
				default:
					c.Ops = append(c.Ops, w.gate(chance, others))
				}
			}
			tail := without(of(n, 3, c.Ops[len(ahead.Ops):]...), done)
			left := of(n, 3, append(ahead.Ops, tail.Ops...)...)
			wantOdds(t, "left out", sideOdds(t, c, others), sideOdds(t, left, others))
		}
	}
}

// sideOp is an operation on one side's qubits and bits alone.
func sideOp(chance *rand.Rand, w *wish, qubits []int, bit int) api.Op {
	switch draw := chance.Intn(6); {
	case draw == 0 && w.measures > 0:
		w.measures--
		return measure(qubits[chance.Intn(len(qubits))], bit)
	case draw == 1 && w.measures > 0:
		w.measures--
		return reset(qubits[chance.Intn(len(qubits))])
	case draw == 2:
		return when(bit, chance.Intn(2), w.gate(chance, qubits))
	}
	return w.gate(chance, qubits)
}

// W4: what one side does, gates, measurements, resets, and gates that hang on its bits, turns neither the odds of the other side's qubits nor the tally of its bits.
func TestNoSignals(t *testing.T) {
	chance := rand.New(rand.NewSource(1212))
	for n := 2; n <= 7; n++ {
		for range 50 {
			l := chance.Perm(n)
			cut := 1 + chance.Intn(n-1)
			here, there := l[:cut], l[cut:]
			w := &wish{qubits: n, halves: 24, measures: 7}
			alone := of(n, 2)
			for range chance.Intn(15) {
				alone.Ops = append(alone.Ops, w.gate(chance, l))
			}
			both := deep(alone)
			for range chance.Intn(24) {
				if chance.Intn(2) == 0 {
					both.Ops = append(both.Ops, sideOp(chance, w, here, 0))
					continue
				}
				op := sideOp(chance, w, there, 1)
				alone.Ops, both.Ops = append(alone.Ops, op), append(both.Ops, op)
			}
			wantOdds(t, "the other side's odds", sideOdds(t, both, there), sideOdds(t, alone, there))
			wantOdds(t, "the other side's tally", bitTally(t, both), bitTally(t, alone))
			wantWhole(t, both)
		}
	}
}

// bitTally is what bit 1 comes to, whatever bit 0 is.
func bitTally(t *testing.T, c api.Circuit) []*big.Rat {
	t.Helper()
	l, e := run.Tally(c)
	if e != api.OK {
		t.Fatal("Tally:", e)
	}
	sums := []*big.Rat{new(big.Rat), new(big.Rat)}
	for _, x := range l {
		sums[x.Bits[1]].Add(sums[x.Bits[1]], total(x.Weight))
	}
	return sums
}

// W1: gates with at most MaxHalves halving ones, run from a basis state: exact with as many halves, of weight 1; those that a condition leaves out halve nothing.
func TestExact(t *testing.T) {
	chance := rand.New(rand.NewSource(1213))
	for n := 1; n <= 12; n++ {
		for range 3 + 200>>n {
			c := of(n, 1)
			w := wish{qubits: n, halves: 24}
			for range chance.Intn(120) {
				c.Ops = append(c.Ops, w.gate(chance, chance.Perm(n)))
			}
			for _, k := range []int{0, chance.Intn(1 << n)} {
				m := from(t, c, basis(n, k), []int{0})
				if used, e := m.Run(nil); used != 0 || e != api.OK {
					t.Fatal("Run:", used, e)
				}
				weight, e := state.Weight(m.State())
				if !state.Exact(m.State(), circuit.Halves(c)) || weight != 1 || e != api.OK {
					t.Errorf("%d halves: exact with %d, weight %v", circuit.Halves(c), state.Halves(m.State()), weight)
				}
				if k == 0 && !sameState(come(t, c).State, m.State()) {
					t.Error("Run is another than From a basis state")
				}
			}
		}
	}
}

// W1: in between and behind measurements what a run has come to is exact, too, with as many halves as were done, and its weights are told exactly.
func TestExactBranches(t *testing.T) {
	chance := rand.New(rand.NewSource(1214))
	for range 200 {
		c := exactCircuit(chance, 1+chance.Intn(6))
		m := machine(t, c)
		for {
			op, ok := m.Next()
			if !ok {
				break
			}
			ahead, _ := state.Weight(m.State())
			if used, _ := m.Step(chance.Float64()); used {
				o := m.Log()[len(m.Log())-1]
				behind, _ := state.Weight(m.State())
				if o.Zero+o.One != ahead || total(o.Zero, o.One).Cmp(total(ahead)) != 0 || behind != [2]float64{o.Zero, o.One}[o.Value] {
					t.Error("weights of", op, o, ahead, behind)
				}
			}
			if !state.Exact(m.State(), circuit.Halves(of(c.Qubits, c.Bits, c.Ops[:m.At()]...))) {
				t.Error("not exact behind", op)
			}
		}
	}
}

// FuzzRun is P12.2 to P12.8 against the slow machine, of circuits that come from bytes, which need not be right.
func FuzzRun(f *testing.F) {
	f.Add([]byte{9, 0, 0, 0, 11, 0, 1, 0, 40, 0, 0, 0, 40, 1, 1, 1}, 0.3, 0.9, 2, 2)
	f.Add([]byte{2, 0, 0, 0, 41, 0, 0, 0, 42, 0, 1, 0, 102, 0, 1, 1}, 0.5, 1.0, 1, 1)
	f.Add([]byte{17, 0, 1, 2, 40, 1, 0, 0, 117, 1, 0, 2, 41, 0, 0, 0}, 0.75, 0.0, 5, 3)
	f.Fuzz(func(t *testing.T, l []byte, u, v float64, qubits, bits int) {
		c := of(qubits%8, bits%8)
		for at := 0; at+4 <= len(l) && len(c.Ops) < 60 && measurements(c) < 8; at += 4 {
			c.Ops = append(c.Ops, byteOp([4]byte(l[at:])))
		}
		us := []float64{u, v, 0.25, u, 0.5, v, 0, below}
		x, e := run.Run(c, us)
		if _, wrong := circuit.Check(c); wrong != api.OK {
			wantNothing(t, "wrong", x, e, api.ErrCircuit)
			return
		}
		wanted := slowNew(c)
		used, slowError := wanted.run(t, us)
		if slowError != api.OK {
			wantNothing(t, "refused", x, e, slowError)
		} else {
			wantResult(t, "Run", x, api.Result{State: wanted.s, Bits: wanted.bits, Log: wanted.log, Used: used})
		}
		m := machine(t, c)
		if n, e := m.Run(us); n != used || e != slowError {
			t.Errorf("Run: %d, %d, not %d, %d", n, e, used, slowError)
		}
		wantLike(t, "Run", m, wanted)
		branches := slowBranches(t, c)
		wantBranches(t, "Branches", c, branches...)
		wantTally(t, "Tally", c, slowTally(branches)...)
		if circuit.Halves(c) <= api.MaxHalves {
			wantWhole(t, c)
		}
	})
}

// byteOp makes an operation of four bytes; from 100 on a gate has a condition.
func byteOp(b [4]byte) api.Op {
	first, second, third := int(b[1]), int(b[2]), int(b[3])
	switch {
	case b[0] == 40:
		return measure(first, second)
	case b[0] == 41:
		return reset(first)
	case b[0] == 42:
		return barrier(first, second)
	case b[0] >= 100:
		return when(third%8, third/8%2, byteGate(int(b[0])-100, first, second, third))
	}
	return byteGate(int(b[0]), first, second, third)
}

// byteGate has as many qubits as most gates of its number have.
func byteGate(k int, qubits ...int) api.Op {
	switch {
	case k <= 10:
		return do(api.GateKind(k), qubits[:1]...)
	case k <= 17:
		return do(api.GateKind(k), qubits[:2]...)
	}
	return do(api.GateKind(k), qubits...)
}
