package noise_test

import (
	"math/rand"
	"testing"

	"phasor/api"
	"phasor/circuit"
)

// P24.2: by hand: where gates come, in which order, whatever the phase; conditions and measurements stay.
func TestInsertByHand(t *testing.T) {
	for _, c := range []struct {
		qubits, bits        int
		text, slips, wanted string
	}{
		{0, 0, "", "", ""},
		{0, 0, "", "0 -i, 0 +", ""},
		{2, 0, "cx 0 1", "", "cx 0 1"},
		{2, 0, "cx 0 1", "0 +II, 1 -iII", "cx 0 1"},
		{2, 0, "cx 0 1", "0 +XI", "x 0; cx 0 1"},
		{2, 0, "cx 0 1", "1 +IX", "cx 0 1; x 1"},
		{3, 0, "", "0 -iXYZ", "x 0; y 1; z 2"},
		{3, 0, "id 0", "0 +ZIX, 0 +YYI, 1 -IIZ", "z 0; x 2; y 0; y 1; id 0; z 2"},
		{2, 0, "s 0; s 1", "1 +XI, 1 +IX, 1 +XI", "s 0; x 0; x 1; x 0; s 1"},
		{1, 1, "reset 0; barrier 0; measure 0 -> 0; if 0 1 sx 0; if 0 0 id 0", "0 +X, 1 +Y, 2 +Z, 3 +X, 4 +Y, 5 +Z", "x 0; reset 0; y 0; barrier 0; z 0; measure 0 -> 0; x 0; if 0 1 sx 0; y 0; if 0 0 id 0; z 0"},
		{3, 0, "ccx 2 1 0; cswap 0 1 2", "1 +XXX", "ccx 2 1 0; x 0; x 1; x 2; cswap 0 1 2"},
	} {
		g := given{c: written(t, c.qubits, c.bits, c.text), slips: slipsOf(t, c.slips)}
		insert.want(t, g, told{c: written(t, c.qubits, c.bits, c.wanted)})
	}
}

// P24.2: against the chapter written a second time; what comes may be.
func TestInsert(t *testing.T) {
	chance := rand.New(rand.NewSource(2402))
	for i := range 1000 {
		w := wish{qubits: chance.Intn(7), bits: chance.Intn(4), ops: chance.Intn(20), halves: 9, measures: 9}
		if i%20 == 0 {
			w.qubits, w.bits = 57+chance.Intn(8), 64
		}
		c := w.drawn(chance)
		g := given{c: c, slips: anySlips(chance, c, chance.Intn(8))}
		insert.wantSlow(t, g)
		if _, e := circuit.Check(insert.answer(t, g).c); e != api.OK {
			t.Fatalf("Insert of %v: what comes may not be", g)
		}
	}
}

// P24.2: up to 4096 operations, and no more; a letter I is none.
func TestInsertUpToTheMost(t *testing.T) {
	full, most := of(64, 0, times(4096, barrier(3))...), of(64, 0, times(4032, do(api.GateS, 0))...)
	one, all := api.Pauli{N: 64, X: 1 << 63}, api.Pauli{N: 64, X: 1<<64 - 1, Z: 0xF0F0}
	insert.want(t, given{c: full}, told{c: full})
	insert.want(t, given{c: full, slips: []api.Slip{{After: 0, P: api.Pauli{N: 64}}, {After: 4096, P: api.Pauli{N: 64, Phase: 2}}}}, told{c: full})
	for _, after := range []int{0, 1, 4095, 4096} {
		insert.refuses(t, "one too many", given{c: full, slips: []api.Slip{{After: after, P: one}}}, api.ErrNoise)
	}
	for _, after := range []int{0, 17, 4032} {
		g := given{c: most, slips: []api.Slip{{After: after, P: all}}}
		insert.wantSlow(t, g)
		if n := len(insert.answer(t, g).c.Ops); n != 4096 {
			t.Error(n)
		}
		insert.refuses(t, "one too many", given{c: most, slips: append(g.slips, api.Slip{After: 4032, P: one})}, api.ErrNoise)
	}
	var many []api.Slip
	for range 100000 {
		many = append(many, api.Slip{After: 4032, P: all})
	}
	insert.refuses(t, "very many too many", given{c: most, slips: many}, api.ErrNoise)
	short := of(64, 0, do(api.GateS, 0))
	insert.wantSlow(t, given{c: short, slips: many[:0]})
	for i := range many {
		many[i] = api.Slip{After: i / 50000, P: api.Pauli{N: 64, Phase: 3}}
	}
	insert.want(t, given{c: short, slips: many}, told{c: short})
}
