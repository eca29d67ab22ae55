package noise_test

import (
	"iter"
	"math/rand"
	"slices"
	"testing"

	"phasor/api"
	"phasor/noise"
)

// P24.8: by hand: gates and resets alone, in their order, a gate's qubits in its order, whether it has a condition or not; X, Y, Z.
func TestFaultsByHand(t *testing.T) {
	g := given{c: written(t, 2, 1, "measure 0 -> 0; cx 1 0; barrier 0 1; if 0 1 id 1; reset 0; measure 1 -> 0")}
	var l []fault
	for _, x := range [][4]string{
		{"2 +IX", "+IX", "1", "001"}, {"2 +IY", "+IY", "1", "001"}, {"2 +IZ", "+IZ", "0", "000"},
		{"2 +XI", "+II", "0", "010"}, {"2 +YI", "+II", "0", "010"}, {"2 +ZI", "+II", "0", "000"},
		{"4 +IX", "+IX", "1", "001"}, {"4 +IY", "+IY", "1", "001"}, {"4 +IZ", "+IZ", "0", "000"},
		{"5 +XI", "+XI", "0", "000"}, {"5 +YI", "+YI", "0", "000"}, {"5 +ZI", "+ZI", "0", "000"},
	} {
		l = append(l, fault{slipsOf(t, x[0])[0], frame(x[1], x[2], x[3])})
	}
	faults.want(t, g, told{faults: l})
	blind.want(t, g, told{slips: slipsOf(t, "2 +IZ, 4 +IZ, 5 +XI, 5 +YI, 5 +ZI")})
	for _, c := range []api.Circuit{of(0, 0), of(64, 64), written(t, 2, 1, "measure 0 -> 0; barrier 1; measure 1 -> 0")} {
		faults.want(t, given{c: c}, told{})
		blind.want(t, given{c: c}, told{})
	}
}

// P24.8, P24.9: against the chapter written a second time.
func TestFaults(t *testing.T) {
	chance := rand.New(rand.NewSource(2407))
	many := 0
	for i := range 500 {
		w := wish{qubits: chance.Intn(8), bits: chance.Intn(4), ops: chance.Intn(30), halves: 50, measures: 12, carries: true}
		if i%50 == 0 {
			w.qubits, w.bits, w.ops = 64, 64, 60
		}
		g := given{c: w.drawn(chance)}
		faults.wantSlow(t, g)
		blind.wantSlow(t, g)
		many += len(blind.answer(t, g).slips)
	}
	if many < 1000 {
		t.Error("too few are blind:", many)
	}
}

// P24.8: each fault's frame is what Carry makes of it alone.
func TestFaultsAreCarried(t *testing.T) {
	chance := rand.New(rand.NewSource(2408))
	for range 60 {
		c := wish{qubits: 1 + chance.Intn(10), bits: 3, ops: 40, halves: 50, measures: 12, carries: true}.drawn(chance)
		for s, f := range noise.Faults(c) {
			carry.want(t, given{c: c, slips: []api.Slip{s}}, told{frame: f})
		}
	}
}

// P24.8: left early at each place, gone through again, in one another, pulled, and when the circuit is no more what it was.
func TestFaultsAgain(t *testing.T) {
	chance := rand.New(rand.NewSource(2409))
	c := wish{qubits: 4, bits: 2, ops: 14, halves: 9, measures: 3, carries: true}.drawn(chance)
	wanted, all := slowFaults(c), noise.Faults(c)
	given{c: c}.spoil()
	if len(wanted) < 10 {
		t.Fatal("too few faults:", len(wanted))
	}
	for many := range wanted {
		if l := firstOf(all, many+1); !slices.EqualFunc(l, wanted[:many+1], sameFault) {
			t.Fatal(many, l)
		}
	}
	inner := 0
	for s := range all {
		for range all {
			inner++
		}
		if s != wanted[inner/len(wanted)-1].slip {
			t.Fatal("in one another:", s)
		}
	}
	next, stop := iter.Pull2(all)
	defer stop()
	for _, x := range wanted {
		if s, f, ok := next(); !ok || !sameFault(fault{s, f}, x) {
			t.Fatal("pulled:", s, f)
		}
	}
	if s, f, ok := next(); ok {
		t.Fatal("more than all:", s, f)
	}
}

// firstOf is the first of them; what is given is written over.
func firstOf(all iter.Seq2[api.Slip, api.Frame], many int) []fault {
	var l []fault
	for s, f := range all {
		l = append(l, fault{s, deepFrame(f)})
		for _, row := range [][]bool{f.Bits, f.Log} {
			for i := range row {
				row[i] = !row[i]
			}
			_ = append(row, true, true)
		}
		if len(l) == many {
			break
		}
	}
	return l
}

// P24.8, P24.9: of as many operations as may be; the last fault is Carry's.
func TestFaultsOfMany(t *testing.T) {
	chance := rand.New(rand.NewSource(2410))
	c := wish{qubits: 64, bits: 64, ops: 4096, halves: 4096, measures: 400, carries: true}.drawn(chance)
	wanted := 0
	for _, op := range c.Ops {
		if op.Kind == api.OpGate || op.Kind == api.OpReset {
			wanted += 3 * len(op.Qubits)
		}
	}
	n := 0
	for s, f := range noise.Faults(c) {
		if n%997 == 0 && !sameFrame(f, slowCarry(c, []api.Slip{s})) {
			t.Fatal(s, f)
		}
		n++
	}
	if n != wanted {
		t.Error(n, "faults, not", wanted)
	}
	if l, e := noise.Blind(c); e != api.OK || len(l) > n {
		t.Error(len(l), e)
	}
}
