package odds_test

import (
	"math"
	"math/rand"
	"testing"

	"phasor/api"
	"phasor/odds"
)

// slowSample is P11.5, each place's sum taken anew from the first on.
func slowSample(s []complex128, u float64) (int, api.Errno) {
	squares := make([]float64, len(s))
	for place, z := range s {
		squares[place] = squared(z)
	}
	weight := added(squares)
	if math.IsNaN(weight) || math.IsInf(weight, 0) || weight <= 0 || math.IsNaN(u) || u < 0 || u >= 1 {
		return 0, api.ErrOdds
	}
	product := u * weight
	for k := range s {
		if product < added(squares[:k+1]) {
			return k, api.OK
		}
	}
	for k := len(s) - 1; k >= 0; k-- {
		if squares[k] > 0 {
			return k, api.OK
		}
	}
	return 0, api.OK
}

func wantSample(t *testing.T, s []complex128, u float64, wanted int, wantedError api.Errno) {
	t.Helper()
	if k, e := odds.Sample(s, u); k != wanted || e != wantedError {
		t.Errorf("Sample of %d amplitudes, %v: %d, %d, not %d, %d", len(s), u, k, e, wanted, wantedError)
	}
}

// P11.5: of any floats, by numbers of all kinds and such as stand where a place ends.
func TestSample(t *testing.T) {
	chance := rand.New(rand.NewSource(1106))
	for n := range 9 {
		for range 3 + 200>>n {
			for _, s := range states(chance, n) {
				ahead := copied(s)
				for _, u := range append(floats(), chance.Float64(), chance.Float64(), 1-0x1p-53, 1-0x1p-52, 0x1p-60) {
					k, e := slowSample(s, u)
					wantSample(t, s, u, k, e)
				}
				if !sameRow(s, ahead) {
					t.Fatal("Sample changed its argument")
				}
			}
		}
	}
}

// P11.5: numbers at which places end, and their neighbours.
func TestSampleAtTheTurn(t *testing.T) {
	chance := rand.New(rand.NewSource(1107))
	for n := range 7 {
		for range 4 + 60>>n {
			for _, s := range [][]complex128{tame(chance, 1<<n), exact(chance, 1<<n, 12)} {
				weight, sum := slowMarginal(s)[0], 0.0
				for _, z := range s {
					u := sum / weight
					for _, u := range []float64{math.Nextafter(u, -1), u, math.Nextafter(u, 2)} {
						k, e := slowSample(s, u)
						wantSample(t, s, u, k, e)
					}
					sum += squared(z)
				}
			}
		}
	}
}

// P11.5: the greatest states, whose every place can come.
func TestSampleOfMany(t *testing.T) {
	s := make([]complex128, 4096)
	for k := range s {
		s[k] = 0x1p-6
	}
	for k := range s {
		u := float64(k) / 4096
		wantSample(t, s, u, k, api.OK)
		wantSample(t, s, u+0x1p-13, k, api.OK)
		wantSample(t, s, math.Nextafter(u+0x1p-12, 0), k, api.OK)
	}
}

// P11.5: by hand: noughts that are passed over, sums that are rounded, least weights, what is refused.
func TestSampleByHand(t *testing.T) {
	below := 1 - 0x1p-53
	step := complex(0x1p-537, 0) // its square is the least float
	for _, c := range []struct {
		what   string
		s      []complex128
		u      float64
		wanted int
		e      api.Errno
	}{
		{"no qubit", []complex128{3i}, below, 0, api.OK},
		{"no qubit, the least", []complex128{step}, below, 0, api.OK},
		{"the first that weighs something", []complex128{0, complex(minus0, 0), 1e-200, 1}, 0, 3, api.OK},
		{"a nought with a sign for u", []complex128{0, 1}, minus0, 1, api.OK},
		{"noughts at the end", []complex128{1, 1, 0, 0}, below, 1, api.OK},
		{"an end is not below itself", []complex128{0.5, 0.5, 0.5, 0.5}, 0.25, 1, api.OK},
		{"just below an end", []complex128{0.5, 0.5, 0.5, 0.5}, 0.25 - 0x1p-55, 0, api.OK},
		{"a weight above 1", []complex128{2, 2, 2, 2}, 0.75, 3, api.OK},
		{"a weight below 1", []complex128{0.25, 0.25, 0.25, 0.25}, 0.75 - 0x1p-53, 2, api.OK},
		{"ones that are lost", []complex128{1 << 27, 1, 1, 1}, below, 0, api.OK},
		// Of 2^54 + 4 the sums are 1, 2, 3, and then all: 3 + 2^54 is rounded.
		{"ones ahead", []complex128{1, 1, 1, 1 << 27}, 0x1p-54, 1, api.OK},
		{"ones ahead, and beyond them", []complex128{1, 1, 1, 1 << 27}, 0x1.8p-53, 3, api.OK},
		// Of the least weights a part may be rounded up to the whole: then it is the last whose square is above 0.
		{"none is more, one", []complex128{0, step, 0, 1e-200}, 0.75, 1, api.OK},
		{"none is more, two", []complex128{step, step, 0, complex(0, minus0)}, 0.75, 1, api.OK},
		{"none is more, far", []complex128{step, 0, 0, step, 1e-200, 0, 0, 0}, 0.75, 3, api.OK},
		{"one is more", []complex128{0, step, 0, step}, 0.5, 3, api.OK},
		{"half a step is none", []complex128{0, step, 0, 0}, 0.5, 1, api.OK},
		{"a part of a step is rounded up", []complex128{step, step, 0, 0}, 0.3, 1, api.OK},
		{"a part of a step is rounded down", []complex128{step, step, 0, 0}, 0.2, 0, api.OK},
		{"the greatest weight", []complex128{0x1p511, 0x1p511}, 0.5, 1, api.OK},
		{"nothing", []complex128{0, 0}, 0, 0, api.ErrOdds},
		{"noughts with signs", []complex128{complex(minus0, minus0)}, 0, 0, api.ErrOdds},
		{"squares that are nothing", []complex128{1e-200, 1e-200i}, 0, 0, api.ErrOdds},
		{"a weight that overflows", []complex128{1e154, 1e154}, 0, 0, api.ErrOdds},
		{"a square that overflows", []complex128{1, 1e200}, 0, 0, api.ErrOdds},
		{"an infinity", []complex128{1, complex(0, -inf)}, 0, 0, api.ErrOdds},
		{"no number", []complex128{1, complex(nan, 0)}, 0, 0, api.ErrOdds},
		{"u below 0", []complex128{0, 1}, -tiny, 0, api.ErrOdds},
		{"u 1", []complex128{0, 1}, 1, 0, api.ErrOdds},
		{"u above 1", []complex128{0, 1}, 1.5, 0, api.ErrOdds},
		{"u no number", []complex128{0, 1}, nan, 0, api.ErrOdds},
		{"u infinite", []complex128{0, 1}, inf, 0, api.ErrOdds},
		{"u infinite, below 0", []complex128{0, 1}, -inf, 0, api.ErrOdds},
	} {
		t.Run(c.what, func(t *testing.T) { wantSample(t, c.s, c.u, c.wanted, c.e) })
	}
}

// P11.5: a row that is no state is told first, whatever u is.
func TestSampleNoState(t *testing.T) {
	for _, s := range wrongs() {
		for _, u := range floats() {
			wantSample(t, s, u, 0, api.ErrState)
		}
	}
}
