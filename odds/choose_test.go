package odds_test

import (
	"math"
	"math/rand"
	"testing"

	"phasor/api"
	"phasor/odds"
)

// slowChoose is P11.3, sentence by sentence.
func slowChoose(zero, one, u float64) (int, api.Errno) {
	sum := zero + one
	for _, x := range []float64{zero, one, sum} {
		if math.IsNaN(x) || math.IsInf(x, 0) || x < 0 {
			return 0, api.ErrOdds
		}
	}
	if !(sum > 0) || math.IsNaN(u) || u < 0 || u >= 1 {
		return 0, api.ErrOdds
	}
	product := u * sum
	switch {
	case one == 0:
		return 0, api.OK
	case zero == 0:
		return 1, api.OK
	case product < one:
		return 1, api.OK
	}
	return 0, api.OK
}

func wantChoice(t *testing.T, zero, one, u float64, wanted int, wantedError api.Errno) {
	t.Helper()
	if v, e := odds.Choose(zero, one, u); v != wanted || e != wantedError {
		t.Errorf("Choose of %v, %v, %v: %d, %d, not %d, %d", zero, one, u, v, e, wanted, wantedError)
	}
}

// P11.3: all triples of floats at which the words part.
func TestChoose(t *testing.T) {
	us := append(floats(), 0.25, 0.3, 0.75, 0x1p-53, 1-0x1p-52, 1+0x1p-52)
	for _, zero := range floats() {
		for _, one := range floats() {
			for _, u := range us {
				v, e := slowChoose(zero, one, u)
				wantChoice(t, zero, one, u, v, e)
			}
		}
	}
}

// P11.3: numbers close to where the choice turns.
func TestChooseAtTheTurn(t *testing.T) {
	chance := rand.New(rand.NewSource(1104))
	for range 20000 {
		zero := math.Ldexp(chance.Float64(), chance.Intn(120)-60)
		one := math.Ldexp(chance.Float64(), chance.Intn(120)-60)
		u := one / (zero + one)
		for range 3 {
			u = math.Nextafter(u, 0)
		}
		for range 7 {
			v, e := slowChoose(zero, one, u)
			wantChoice(t, zero, one, u, v, e)
			u = math.Nextafter(u, 2)
		}
	}
}

// P11.3: by hand: what is rounded and when, what weighs nothing, what is refused.
func TestChooseByHand(t *testing.T) {
	below := 1 - 0x1p-53
	for _, c := range []struct {
		zero, one, u float64
		wanted       int
		e            api.Errno
	}{
		{0.5, 0.5, 0.5, 0, api.OK},
		{0.5, 0.5, 0.5 - 0x1p-54, 1, api.OK},
		{1, 1, 0, 1, api.OK},
		{1, 1, minus0, 1, api.OK},
		{1, 1, below, 0, api.OK},
		{3, 1, 0.25, 0, api.OK},
		{3, 1, 0.25 - 0x1p-55, 1, api.OK},
		{1, tiny, 0, 1, api.OK},
		{1, tiny, tiny, 0, api.OK},
		{tiny, 1, below, 1, api.OK},
		// The least weights: 0.6 of a step is rounded to a whole one, 0.5 to none.
		{tiny, tiny, 0.3, 0, api.OK},
		{tiny, tiny, 0.25, 1, api.OK},
		{0, tiny, 0.9999, 1, api.OK},
		{tiny, 0, 0.9999, 0, api.OK},
		{0, tiny, below, 1, api.OK},
		{tiny, 0, 0, 0, api.OK},
		// The sum is rounded up to 2^53 + 4, and the product, a little below 3, to 3; left as they are, either would turn the choice.
		{1 << 53, 3, 0x1.7fffffffffffdp-52, 0, api.OK},
		{1 << 53, 3, 0x1.7fffffffffffcp-52, 1, api.OK},
		// The sum is rounded down to 2^53: of 2^53 + 1 the product would be rounded to 1.
		{1 << 53, 1, 0x1p-53 - 0x1p-106, 1, api.OK},
		{1 << 53, 1, 0x1p-53, 0, api.OK},
		{most, 1, 0, 1, api.OK},
		{most, 1, below, 0, api.OK},
		{most / 2, most / 2, 0.5, 0, api.OK},
		{1, minus0, 0, 0, api.OK},
		{minus0, 1, below, 1, api.OK},
		{minus0, minus0, 0, 0, api.ErrOdds},
		{0, minus0, 0.5, 0, api.ErrOdds},
		{most, most, 0, 0, api.ErrOdds},
		{-1, 2, 0, 0, api.ErrOdds},
		{2, -1, 0, 0, api.ErrOdds},
		{-tiny, 1, 0, 0, api.ErrOdds},
		{1, -tiny, 0, 0, api.ErrOdds},
		{-1, -1, 0, 0, api.ErrOdds},
		{inf, 1, 0, 0, api.ErrOdds},
		{0, inf, 0, 0, api.ErrOdds},
		{inf, 0, 0, 0, api.ErrOdds},
		{-inf, inf, 0, 0, api.ErrOdds},
		{nan, 1, 0, 0, api.ErrOdds},
		{0, nan, 0, 0, api.ErrOdds},
		{0, 1, -tiny, 0, api.ErrOdds},
		{0, 1, 1, 0, api.ErrOdds},
		{1, 0, 1, 0, api.ErrOdds},
		{0, 1, nan, 0, api.ErrOdds},
		{1, 0, nan, 0, api.ErrOdds},
		{1, 1, inf, 0, api.ErrOdds},
		{1, 1, -inf, 0, api.ErrOdds},
		{1, 1, 2, 0, api.ErrOdds},
		{1, 1, -0.5, 0, api.ErrOdds},
	} {
		wantChoice(t, c.zero, c.one, c.u, c.wanted, c.e)
	}
}
