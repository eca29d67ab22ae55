package equal_test

import (
	"math/rand"
	"testing"

	"phasor/api"
)

// P21.5: by hand: rows of bits, and their weights; states, qubits and the order of measurements do not count.
func TestTalliesByHand(t *testing.T) {
	for _, c := range []struct {
		bits   int
		a, b   string
		wanted bool
	}{
		{0, "", "", true}, {0, "x 0", "", true}, {0, "sx 0; reset 0", "reset 1; sy 1", true},
		{1, "", "", true}, {1, "", "measure 0 -> 0", true}, {1, "x 0; measure 0 -> 0", "", false}, {1, "x 0; measure 0 -> 0", "x 1; measure 1 -> 0", true},
		{1, "sx 0; measure 0 -> 0", "sy 1; measure 1 -> 0; measure 1 -> 0", true},
		{1, "sx 0; measure 0 -> 0", "measure 0 -> 0", false}, {1, "sx 0; measure 0 -> 0", "x 0; measure 0 -> 0", false},
		{1, "sx 0; measure 0 -> 0", "sx 0; reset 0; measure 0 -> 0", false}, {1, "sx 0; measure 0 -> 0; measure 1 -> 0", "", true},
		{1, "hh 0 1; ccx 0 1 2; measure 2 -> 0", "sx 0; measure 0 -> 0", false},
		{1, "hh 0 1; ccx 0 1 2; measure 2 -> 0", "hh 1 2; ccx 1 2 0; x 0; measure 0 -> 0; if 0 0 x 1; x 0; measure 0 -> 0", true},
		{2, "hh 0 1; measure 0 -> 0; measure 1 -> 1", "hh 0 1; measure 1 -> 1; measure 0 -> 0", true},
		{2, "hh 0 1; measure 0 -> 0; measure 1 -> 1", "hh 0 1; measure 1 -> 0; measure 0 -> 1", true},
		{2, "hh 0 1; measure 0 -> 0; measure 1 -> 1", "hh 0 1; cx 0 1; measure 0 -> 0; measure 1 -> 1", true},
		{2, "sy 0; cx 0 1; measure 0 -> 0; measure 1 -> 1", "hh 0 1; measure 0 -> 0; measure 1 -> 1", false},
		{2, "sy 0; cx 0 1; measure 0 -> 0; measure 1 -> 1", "sx 2; measure 2 -> 0; measure 2 -> 1", true},
		{2, "sy 0; cx 0 1; measure 0 -> 0; measure 1 -> 1", "sx 2; measure 2 -> 0; x 2; measure 2 -> 1", false},
		{2, "x 0; measure 0 -> 0", "x 0; measure 0 -> 1", false},
		{2, "sx 0; measure 0 -> 0", "sx 0; measure 0 -> 1", false},
		{2, "sx 0; measure 0 -> 0; if 0 1 x 1; measure 1 -> 1", "sx 0; cx 0 1; measure 1 -> 1; measure 0 -> 0", true},
		{2, "sx 0; measure 0 -> 0; if 0 0 x 1; measure 1 -> 1", "sx 0; cx 0 1; measure 1 -> 1; measure 0 -> 0", false},
		{64, "x 0; measure 0 -> 63", "measure 0 -> 63", false}, {64, "x 0; measure 0 -> 63", "x 2; barrier 0 1; measure 2 -> 63", true}, {64, "x 0; measure 0 -> 63", "x 0; measure 0 -> 62", false},
	} {
		a, b := bitted(t, 3, c.bits, c.a), bitted(t, 3, c.bits, c.b)
		tallies.wantYes(t, a, b, c.wanted)
		tallies.wantYes(t, b, a, c.wanted)
	}
}

// P21.5: circuits of unlike numbers of qubits have tallies all the same, of none to twelve.
func TestTalliesOfUnlikeNumbersOfQubits(t *testing.T) {
	tallies.wantYes(t, of(0, 2), of(12, 2), true)
	tallies.wantYes(t, of(0, 0), of(12, 0, do(api.GateX, 11)), true)
	tallies.wantYes(t, bitted(t, 12, 1, "sx 11; measure 11 -> 0"), bitted(t, 1, 1, "sy 0; measure 0 -> 0"), true)
	tallies.wantYes(t, bitted(t, 12, 1, "x 11; measure 11 -> 0"), of(0, 1), false)
}

// P21.5: twelve measurements and resets together are tallied.
func TestTalliesOfTwelve(t *testing.T) {
	x, m := do(api.GateX, 0), measure(0, 0)
	a, b := of(1, 1, times(12, x, m)...), of(1, 1, times(6, reset(0), m)...)
	tallies.wantYes(t, a, b, true)
	a.Ops = append(a.Ops, do(api.GateV, 0), barrier(0))
	tallies.wantYes(t, a, b, true)
	tallies.wantYes(t, of(1, 1, times(11, x, m)...), b, false)
}

// P21.5: ErrEqual, if the numbers of bits are unlike, or layer 12's Tally refuses one of the two, or both.
func TestTalliesRefuse(t *testing.T) {
	many := times(13, measure(0, 0))
	fine := bitted(t, 1, 1, "sx 0; measure 0 -> 0")
	for what, c := range map[string]api.Circuit{
		"one bit more":           bitted(t, 1, 2, "sx 0; measure 0 -> 0"),
		"no bit":                 bitted(t, 1, 0, "sx 0"),
		"64 bits":                of(1, 64),
		"13 qubits":              of(13, 1),
		"64 qubits":              of(64, 1, do(api.GateX, 63)),
		"13 measurements":        of(1, 1, many...),
		"12 and a reset":         of(1, 1, append(many[1:], reset(0))...),
		"13 resets":              of(1, 1, times(13, reset(0))...),
		"4096 resets":            of(1, 1, times(4096, reset(0))...),
		"13 of both, and qubits": of(13, 1, many...),
	} {
		tallies.refuses(t, what, fine, c, api.ErrEqual)
		tallies.refuses(t, what+", first", c, fine, api.ErrEqual)
		if c.Qubits > 12 || len(c.Ops) > 12 {
			tallies.refuses(t, what+", twice", c, c, api.ErrEqual)
		}
	}
}

// P21.5: at chance, with conditions, against the branches.
func TestTalliesAtChance(t *testing.T) {
	chance := rand.New(rand.NewSource(2106))
	seen := map[bool]int{}
	for range 1500 {
		w := wish{qubits: 1 + chance.Intn(4), bits: chance.Intn(5), ops: chance.Intn(35), halves: chance.Intn(20), measures: chance.Intn(12), asks: true}
		a := w.drawn(chance)
		b := kin(chance, a)
		if chance.Intn(2) == 0 {
			b = w.drawn(chance)
		}
		same := slowTallies(a, b)
		tallies.wantYes(t, a, b, same)
		tallies.wantYes(t, b, a, same)
		seen[same]++
	}
	if seen[true] < 200 || seen[false] < 200 {
		t.Error("too few:", seen)
	}
}

// P21.5: weights that are rounded are held against each other as they are: a little more or less parts two circuits.
func TestTalliesOfRounded(t *testing.T) {
	chance := rand.New(rand.NewSource(2107))
	parted := 0
	for range 4 {
		c := stirred(chance, 150)
		d := stirred(chance, 50)
		m := []api.Op{measure(0, 0), measure(1, 1), measure(2, 0)}
		a := of(4, 2, behind(c.Ops, m, d.Ops, m)...)
		b := of(4, 2, behind(c.Ops, []api.Op{m[1], m[0], m[2]}, d.Ops, m)...)
		same := slowTallies(a, b)
		tallies.wantYes(t, a, b, same)
		tallies.wantYes(t, a, a, true)
		if !same {
			parted++
		}
	}
	if parted == 0 {
		t.Error("nothing was rounded")
	}
}
