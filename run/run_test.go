package run_test

import (
	"math/rand"
	"testing"

	"phasor/api"
	"phasor/run"
)

// P12.3, P12.5: circuits at chance with enough numbers, with too few, with one that is refused; and what the call Run makes of them.
func TestRun(t *testing.T) {
	chance := rand.New(rand.NewSource(1204))
	for range 1500 {
		c := wish{qubits: 1 + chance.Intn(5), bits: chance.Intn(5), ops: chance.Intn(25), halves: 40, measures: 25}.drawn(chance)
		many := measurements(c)
		us := numbers(chance, many+chance.Intn(3))
		switch l := refusedNumbers(); {
		case many > 0 && chance.Intn(3) == 0:
			us = us[:chance.Intn(many)]
		case len(us) > 0 && chance.Intn(3) == 0:
			us[chance.Intn(len(us))] = l[chance.Intn(len(l))]
		}
		m, wanted := machine(t, c), slowNew(c)
		slowUsed, slowError := wanted.run(t, us)
		if used, e := m.Run(us); used != slowUsed || e != slowError {
			t.Fatalf("Run: %d, %d, not %d, %d", used, e, slowUsed, slowError)
		}
		wantLike(t, "behind Run", m, wanted)
		x, e := run.Run(c, us)
		if slowError != api.OK {
			wantNothing(t, "the call Run", x, e, slowError)
		} else {
			wantResult(t, "the call Run", x, api.Result{State: wanted.s, Bits: wanted.bits, Log: wanted.log, Used: slowUsed})
		}
	}
}

// P12.3: a machine that stands ahead of a measurement goes on from there, with the first of the numbers that it is given then.
func TestRunGoesOn(t *testing.T) {
	chance := rand.New(rand.NewSource(1205))
	for range 300 {
		c := wish{qubits: 1 + chance.Intn(4), bits: chance.Intn(4), ops: chance.Intn(25), halves: 40, measures: 25}.drawn(chance)
		us := numbers(chance, measurements(c))
		m, wanted := machine(t, c), slowNew(c)
		for left := us; ; {
			part := left[:chance.Intn(len(left)+1)]
			used, e := m.Run(part)
			slowUsed, slowError := wanted.run(t, part)
			if used != slowUsed || used != len(part) || e != slowError || (e == api.OK) != (len(part) == len(left)) {
				t.Fatalf("Run of a part: %d of %d, %d", used, len(part), e)
			}
			wantLike(t, "behind a part", m, wanted)
			if left = left[used:]; e == api.OK {
				break
			}
		}
		wantResult(t, "as a whole", come(t, c, us...), api.Result{State: m.State(), Bits: m.Bits(), Log: m.Log(), Used: len(us)})
	}
}

// P12.3: by hand: where it stands, how many were used, what is not looked at.
func TestRunByHand(t *testing.T) {
	c := of(2, 2, do(api.GateW, 0), measure(0, 0), do(api.GateX, 1), barrier(0), reset(1), do(api.GateX, 0), measure(0, 1), do(api.GateX, 1))
	for _, w := range []struct {
		us       []float64
		used, at int
		e        api.Errno
	}{
		{nil, 0, 1, api.ErrRun},
		{[]float64{}, 0, 1, api.ErrRun},
		{make([]float64, 0, 9), 0, 1, api.ErrRun},
		{[]float64{0.1}, 1, 4, api.ErrRun},
		{[]float64{0.1, 0.2}, 2, 6, api.ErrRun},
		{make([]float64, 2, 3), 2, 6, api.ErrRun},
		{[]float64{0.1, 0.2, 0.3}, 3, 8, api.OK},
		{[]float64{0.1, 0.2, 0.3, nan, 7}, 3, 8, api.OK},
		{[]float64{1, 0.2, 0.3}, 0, 1, api.ErrRun},
		{[]float64{0.1, -1, 0.3}, 1, 4, api.ErrRun},
		{[]float64{0.1, 0.2, nan, 0.5}, 2, 6, api.ErrRun},
	} {
		m := machine(t, c)
		if used, e := m.Run(w.us); used != w.used || e != w.e || m.At() != w.at || len(m.Log()) != w.used {
			t.Errorf("%v: used %d, at %d, error %d, log %v", w.us, used, m.At(), e, m.Log())
		}
		if w.e == api.OK {
			for _, us := range [][]float64{nil, {nan}, {0.5}} {
				if used, e := m.Run(us); used != 0 || e != api.OK || m.At() != w.at {
					t.Error("Run at the end:", used, e)
				}
			}
		}
	}
	m := from(t, of(1, 1, do(api.GateX, 0), measure(0, 0)), []complex128{0, 0}, []int{0})
	if used, e := m.Run([]float64{0.5}); used != 0 || e != api.ErrRun || m.At() != 1 {
		t.Error("weight 0:", used, e, m.At())
	}
}

// P12.5: New's errors, whatever the numbers.
func TestRunRefuses(t *testing.T) {
	for _, us := range [][]float64{nil, {0.5}, {nan}} {
		for _, c := range wrongCircuits() {
			x, e := run.Run(c, us)
			wantNothing(t, "a wrong circuit", x, e, api.ErrCircuit)
		}
		for _, c := range wideCircuits() {
			x, e := run.Run(c, us)
			wantNothing(t, "a wide circuit", x, e, api.ErrState)
		}
	}
}

// P12.5: what is answered is new memory, call by call; circuits of no qubits, and of as many operations as there may be.
func TestRunAnswers(t *testing.T) {
	x, y := come(t, bell(), 0.3, 0.9), come(t, bell(), 0.3, 0.9)
	x.State[3], x.Bits[0], x.Log[0] = 9, 9, api.Outcome{}
	wantResult(t, "another call", y, come(t, bell(), 0.3, 0.9))
	wantResult(t, "no qubits", come(t, of(0, 2)), api.Result{State: []complex128{1}, Bits: []int{0, 0}})
	long := of(12, 64, repeated(2048, do(api.GateX, 11), measure(11, 63))...)
	x = come(t, long, make([]float64, 2048)...)
	if x.Used != 2048 || x.Bits[63] != 0 || x.Log[0].Value != 1 || x.Log[2047] != (api.Outcome{Op: 4095, Qubit: 11, Bit: 63, Zero: 1}) {
		t.Error("the longest:", x.Used, x.Bits, x.Log[2047])
	}
}
