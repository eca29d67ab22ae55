package noise_test

import (
	"math/rand"
	"slices"
	"testing"

	"phasor/api"
	"phasor/circuit"
	"phasor/matrix"
	"phasor/noise"
	"phasor/pauli"
	"phasor/run"
	"phasor/stab"
	"phasor/state"
	"phasor/tableau"
)

// valuesOf are the values of a log.
func valuesOf(log []api.Outcome) []int {
	l := []int{}
	for _, o := range log {
		l = append(l, o.Value)
	}
	return l
}

// turnedBy are noughts and ones, turned where it is said.
func turnedBy(l []int, turned []bool) []int {
	other := slices.Clone(l)
	for i, is := range turned {
		if is {
			other[i] = 1 - l[i]
		}
	}
	return other
}

// wantStruck runs a circuit with slips put in so that it comes to the values that a frame says, and takes the bits and the state to be what the frame says, too.
func wantStruck(t *testing.T, c, struck api.Circuit, f api.Frame, values, bits []int, s []complex128) {
	t.Helper()
	wanted := turnedBy(values, f.Log)
	us := numbersFor.answer(t, given{values: wanted}).floats
	x, e := run.Run(struck, us)
	if e != api.OK {
		t.Fatalf("%v, struck %v: error %d", c, struck, e)
	}
	if got := valuesOf(x.Log); !slices.Equal(got, wanted) {
		t.Fatalf("%v, struck %v, frame %v: values %v, not %v", c, struck, f, got, wanted)
	}
	if other := turnedBy(bits, f.Bits); !slices.Equal(x.Bits, other) {
		t.Fatalf("%v, struck %v, frame %v: bits %v, not %v", c, struck, f, x.Bits, other)
	}
	moved, e := pauli.Act(f.P, s)
	if e != api.OK || state.Phase(x.State, moved) < 0 {
		t.Fatalf("%v, struck %v, frame %v: state %v, not %v", c, struck, f, x.State, moved)
	}
}

// P24.7: the circuit with the errors put in comes to the turned values, the turned bits, and the state that the frame makes of the other one.
func TestFramesAreRuns(t *testing.T) {
	chance := rand.New(rand.NewSource(2414))
	turned, moved := 0, 0
	for range 1500 {
		c := wish{qubits: chance.Intn(7), bits: chance.Intn(4), ops: chance.Intn(40), halves: api.MaxHalves, measures: 12, carries: true}.drawn(chance)
		slips := anySlips(chance, c, chance.Intn(5))
		struck := insert.answer(t, given{c: c, slips: slips}).c
		f := carry.answer(t, given{c: c, slips: slips}).frame
		x, e := run.Run(c, numbers(chance, measurements(c)))
		if e != api.OK {
			t.Fatal(e)
		}
		wantStruck(t, c, struck, f, valuesOf(x.Log), x.Bits, x.State)
		if slices.Contains(f.Log, true) {
			turned++
		}
		if pauli.Weight(f.P) > 0 {
			moved++
		}
	}
	if turned < 300 || moved < 300 {
		t.Error("too few frames that do something:", turned, moved)
	}
}

// P24.7: whichever values a run comes to.
func TestFramesOfAllBranches(t *testing.T) {
	chance := rand.New(rand.NewSource(2415))
	for range 150 {
		c := wish{qubits: 1 + chance.Intn(4), bits: 1 + chance.Intn(3), ops: 30, halves: api.MaxHalves, measures: 6, carries: true}.drawn(chance)
		slips := anySlips(chance, c, 1+chance.Intn(3))
		struck := insert.answer(t, given{c: c, slips: slips}).c
		f := carry.answer(t, given{c: c, slips: slips}).frame
		for b := range run.Branches(c) {
			wantStruck(t, c, struck, f, b.Values, b.Bits, b.State)
		}
	}
}

// P24.7: what Draw draws, put in and carried.
func TestDrawnFrames(t *testing.T) {
	chance := rand.New(rand.NewSource(2416))
	for range 200 {
		c := wish{qubits: 1 + chance.Intn(6), bits: 1 + chance.Intn(3), ops: 60, halves: api.MaxHalves, measures: 12, carries: true}.drawn(chance)
		slips := draw.answer(t, given{c: c, p: 0.2, us: numbers(chance, 180)}).slips
		check.want(t, given{c: c, slips: slips}, told{})
		struck := insert.answer(t, given{c: c, slips: slips}).c
		if len(struck.Ops) != len(c.Ops)+len(slips) {
			t.Fatal("each slip is a gate:", struck)
		}
		f := carry.answer(t, given{c: c, slips: slips}).frame
		x, e := run.Run(c, numbers(chance, measurements(c)))
		if e != api.OK {
			t.Fatal(e)
		}
		wantStruck(t, c, struck, f, valuesOf(x.Log), x.Bits, x.State)
	}
}

// P24.7, of up to 64 qubits, by layer 15: each stabilizer, with the other sign if it does not commute with the frame's string, stabilizes the struck one's state.
func TestFramesOfMany(t *testing.T) {
	chance := rand.New(rand.NewSource(2417))
	for range 40 {
		c := wish{qubits: 30 + chance.Intn(35), bits: 20, ops: 300, halves: 300, measures: 60, carries: true}.drawn(chance)
		slips := anySlips(chance, c, 1+chance.Intn(4))
		f := carry.answer(t, given{c: c, slips: slips}).frame
		plain, _ := stab.New(c)
		struck, _ := stab.New(insert.answer(t, given{c: c, slips: slips}).c)
		if _, e := plain.Run(numbers(chance, measurements(c))); e != api.OK {
			t.Fatal(e)
		}
		wanted := turnedBy(valuesOf(plain.Log()), f.Log)
		if _, e := struck.Run(numbersFor.answer(t, given{values: wanted}).floats); e != api.OK {
			t.Fatal(e)
		}
		if !slices.Equal(valuesOf(struck.Log()), wanted) || !slices.Equal(struck.Bits(), turnedBy(plain.Bits(), f.Bits)) {
			t.Fatalf("%v, %v: values or bits", c, slips)
		}
		behind := struck.Tableau()
		for _, p := range plain.Tableau().Stab {
			if is, _ := pauli.Commute(p, f.P); !is {
				p.Phase ^= 2
			}
			if is, e := tableau.Member(behind, p); is != 1 || e != api.OK {
				t.Fatalf("%v, %v: %v does not stabilize: %d, %d", c, slips, p, is, e)
			}
		}
	}
}

// both are frames, multiplied: what both turn is not turned.
func both(a, b api.Frame) api.Frame {
	f := deepFrame(a)
	f.P.X ^= b.P.X
	f.P.Z ^= b.P.Z
	for i := range f.Bits {
		f.Bits[i] = a.Bits[i] != b.Bits[i]
	}
	for i := range f.Log {
		f.Log[i] = a.Log[i] != b.Log[i]
	}
	return f
}

// P24.7: two rows of slips at one time are the product of both; so each slip's letters are that of their faults.
func TestCarryIsAProduct(t *testing.T) {
	chance := rand.New(rand.NewSource(2418))
	for i := range 600 {
		w := wish{qubits: chance.Intn(8), bits: chance.Intn(4), ops: chance.Intn(40), halves: 50, measures: 12, carries: true}
		if i%20 == 0 {
			w.qubits, w.ops = 64, 300
		}
		c := w.drawn(chance)
		a, b := anySlips(chance, c, chance.Intn(5)), anySlips(chance, c, chance.Intn(5))
		merged := slices.Concat(a, b)
		slices.SortStableFunc(merged, func(x, y api.Slip) int { return x.After - y.After })
		ofA, ofB := carry.answer(t, given{c: c, slips: a}).frame, carry.answer(t, given{c: c, slips: b}).frame
		carry.want(t, given{c: c, slips: merged}, told{frame: both(ofA, ofB)})
	}
}

// P24.7: a channel keeps the trace, exactly.
func TestPassKeepsTheTrace(t *testing.T) {
	chance := rand.New(rand.NewSource(2419))
	for n := 1; n < 7; n++ {
		for range 8 + 200>>n {
			for _, k := range kinds() {
				m, halves := anyMatrix(chance, n, roundFloat), chance.Intn(21)
				if chance.Intn(3) == 0 {
					halves = 20
				}
				wanted, _ := matrix.Trace(m)
				passed := pass.answer(t, given{m: m, qubit: chance.Intn(n), k: k, halves: halves}).m
				if z, e := matrix.Trace(passed); z != wanted || e != api.OK {
					t.Fatalf("channel %d, %d halves, of %v: trace %v, not %v", k, halves, m, z, wanted)
				}
			}
		}
	}
}

// P24.7: wholly, the channels X, Y and Z twice are nothing; Reset and Mix twice are once.
func TestPassTwice(t *testing.T) {
	chance := rand.New(rand.NewSource(2420))
	for n := 1; n < 7; n++ {
		for range 4 + 60>>n {
			for _, k := range kinds() {
				m, qubit := anyMatrix(chance, n, roundFloat), chance.Intn(n)
				once := pass.answer(t, given{m: m, qubit: qubit, k: k}).m
				twice := pass.answer(t, given{m: once, qubit: qubit, k: k}).m
				wanted := m
				if k == api.ChannelReset || k == api.ChannelMix {
					wanted = once
				}
				if !equal(twice, wanted) {
					t.Fatalf("channel %d twice of %v: %v", k, m, twice)
				}
			}
		}
	}
}

// FuzzNoise holds the calls against the chapter written a second time, on circuits and slips of a few bytes.
func FuzzNoise(f *testing.F) {
	f.Add([]byte{11, 0, 1, 41, 0, 0, 130, 1, 0}, []byte{0, 1, 0}, 2, 1, 0.3, uint64(1))
	f.Add([]byte{42, 0, 0, 7, 0, 0, 41, 0, 1}, []byte{1, 1, 1, 2, 1, 2}, 1, 2, 1.0, uint64(2))
	f.Add([]byte{18, 0, 1, 43, 0, 1, 17, 1, 2}, []byte{3, 7, 7, 0, 1, 1}, 3, 0, 0.75, uint64(3))
	f.Add([]byte{139, 0, 1}, []byte{1, 0, 0}, 2, 1, 2.0, uint64(4))
	f.Add([]byte{2, 9, 0}, []byte{}, 1, 65, -1.0, uint64(5))
	f.Fuzz(func(t *testing.T, ops, slips []byte, qubits, bits int, p float64, seed uint64) {
		c := byteCircuit(ops, qubits, bits)
		g := given{c: c, p: p, us: numbers(rand.New(rand.NewSource(int64(seed))), int(seed%40))}
		for at := 0; at+3 <= len(slips) && at < 30; at += 3 {
			g.slips = append(g.slips, api.Slip{After: int(slips[at]), P: api.Pauli{N: c.Qubits, X: uint64(slips[at+1]), Z: uint64(slips[at+2] % 64), Phase: int(slips[at+2] / 64)}})
		}
		for _, f := range append(ofCircuit(), faults) {
			f.wantSlow(t, g)
		}
		if _, e := noise.Insert(c, g.slips); e == api.OK && slowCarries(c) && circuit.Halves(c) <= api.MaxHalves {
			x, _ := run.Run(c, make([]float64, measurements(c)))
			wantStruck(t, c, insert.answer(t, g).c, carry.answer(t, g).frame, valuesOf(x.Log), x.Bits, x.State)
		}
	})
}

// byteCircuit is one of at most 20 operations, three bytes each, and of at most six qubits, or one that may not be.
func byteCircuit(l []byte, qubits, bits int) api.Circuit {
	c := of(qubits%7, bits%66)
	for at := 0; at+3 <= len(l) && len(c.Ops) < 20; at += 3 {
		c.Ops = append(c.Ops, byteOp(int(l[at]), int(l[at+1]), int(l[at+2])))
	}
	return c
}

// byteOp is an operation of three numbers: the first says what, and whether there is a condition; the others are qubits, or a bit.
func byteOp(what, p, q int) api.Op {
	switch {
	case what == 41:
		return measure(p, q)
	case what == 42:
		return reset(p)
	case what == 43:
		return barrier(p, q)
	case what >= 128:
		return when(q%4, q/4%2, byteGate(what-128, p, q/8))
	}
	return byteGate(what, p, q)
}

func byteGate(k, p, q int) api.Op {
	switch {
	case k > 17:
		return do(api.GateKind(k), p, q, 3-p-q)
	case k > 10:
		return do(api.GateKind(k), p, q)
	}
	return do(api.GateKind(k), p)
}
