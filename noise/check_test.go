package noise_test

import (
	"math/rand"
	"testing"

	"phasor/api"
	"phasor/noise"
)

// P24.1: where a slip may strike: ahead of all operations, behind each, several at one place; phases may be any.
func TestCheckByHand(t *testing.T) {
	c := written(t, 2, 1, "cx 0 1; barrier 0; measure 1 -> 0")
	for _, text := range []string{"", "0 +II", "3 +XY", "0 +XI, 0 -IX, 1 +iZZ, 1 -iYY, 3 +II, 3 +XX", "2 -iXX", "0 +XI, 1 +XI, 2 +XI, 3 +XI"} {
		check.want(t, given{c: c, slips: slipsOf(t, text)}, told{})
	}
	for _, text := range []string{"4 +II", "-1 +II", "0 +I", "0 +III", "0 +", "1 +II, 0 +II", "0 +II, 3 +II, 2 +II", "0 +II, 1 +X", "0 +XXX, 1 +II"} {
		check.refuses(t, text, given{c: c, slips: slipsOf(t, text)}, api.ErrNoise)
	}
	none := of(0, 0)
	check.want(t, given{c: none, slips: slipsOf(t, "0 +, 0 -i")}, told{})
	check.refuses(t, "behind no operation", given{c: none, slips: slipsOf(t, "1 +")}, api.ErrNoise)
	wide := of(64, 64, do(api.GateX, 63))
	check.want(t, given{c: wide, slips: []api.Slip{{After: 1, P: api.Pauli{N: 64, X: 1 << 63, Z: 1<<64 - 1, Phase: 3}}}}, told{})
}

// P24.1: of what frames can't be carried through, and of what measures and asks, too: at chance, right ones and such as are a little off.
func TestCheck(t *testing.T) {
	chance := rand.New(rand.NewSource(2401))
	seen := map[api.Errno]int{}
	for range 2000 {
		c := wish{qubits: chance.Intn(6), bits: chance.Intn(3), ops: chance.Intn(6), halves: 6, measures: 2}.drawn(chance)
		slips := anySlips(chance, c, chance.Intn(5))
		if len(slips) > 0 && chance.Intn(2) == 0 {
			slips[chance.Intn(len(slips))].After += chance.Intn(3) - 1
		}
		if len(slips) > 0 && chance.Intn(4) == 0 {
			slips[chance.Intn(len(slips))].P.N += chance.Intn(3) - 1
		}
		g := given{c: c, slips: slips}
		check.wantSlow(t, g)
		_, e := slow("Check", g)
		seen[e]++
	}
	if seen[api.OK] < 500 || seen[api.ErrNoise] < 500 {
		t.Error("too few of one kind:", seen)
	}
}

// P24.1, P24.2, P24.4: each call that takes slips refuses such as do not fit, wherever they stand.
func TestWrongSlips(t *testing.T) {
	circuits := []api.Circuit{of(0, 0), of(1, 0), of(63, 0), of(64, 0, do(api.GateX, 5)), written(t, 3, 1, "cx 0 1; measure 2 -> 0; if 0 1 y 2; barrier 1; reset 0")}
	for _, c := range append(circuits, stuckCircuits()...) {
		if len(c.Ops) > 100 {
			continue
		}
		for _, slips := range wrongSlips(c) {
			for _, f := range []call{check, insert, carry} {
				f.refuses(t, "slips that do not fit", given{c: c, slips: slips}, api.ErrNoise)
			}
		}
	}
}

// P24.1 to P24.4, P24.8, P24.9: each call of a circuit that may not be, whatever else is wrong.
func TestWrongCircuits(t *testing.T) {
	for _, c := range wrongCircuits() {
		for _, g := range []given{{c: c}, {c: c, slips: []api.Slip{{P: api.Pauli{N: c.Qubits}}}, p: 0.5, us: make([]float64, 20)}, {c: c, slips: []api.Slip{{After: -1}}, p: nan}, {c: c, p: 2, us: []float64{nan}}} {
			for _, f := range ofCircuit() {
				f.refuses(t, "a circuit that may not be", g, api.ErrCircuit)
			}
			faults.want(t, g, told{})
		}
	}
}

// P24.1: the answers are the errors' numbers that the chapter names.
func TestErrorNumbers(t *testing.T) {
	if e := noise.Check(of(65, 0), nil); e != 80 {
		t.Error("ErrCircuit:", e)
	}
	if e := noise.Check(of(1, 0), make([]api.Slip, 1)); e != 240 {
		t.Error("ErrNoise:", e)
	}
	if _, e := noise.Carry(of(3, 0, do(api.GateCSw, 0, 1, 2)), nil); e != 241 {
		t.Error("ErrFrame:", e)
	}
	if _, e := noise.Pass(api.Matrix{}, 0, 0, 0); e != 70 {
		t.Error("ErrShape:", e)
	}
}
