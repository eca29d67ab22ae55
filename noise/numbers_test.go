package noise_test

import (
	"math"
	"math/rand"
	"testing"

	"phasor/api"
	"phasor/odds"
)

// P24.5: a number for each value.
func TestNumbers(t *testing.T) {
	numbersFor.want(t, given{}, told{})
	numbersFor.want(t, given{values: []int{0}}, told{floats: []float64{0x1.fffffffffffffp-1}})
	numbersFor.want(t, given{values: []int{1}}, told{floats: []float64{0}})
	numbersFor.want(t, given{values: []int{1, 0, 0, 1}}, told{floats: []float64{0, below, below, 0}})
	chance := rand.New(rand.NewSource(2411))
	for range 100 {
		values := make([]int, chance.Intn(5000))
		for i := range values {
			values[i] = chance.Intn(2)
		}
		numbersFor.wantSlow(t, given{values: values})
	}
}

// P24.5: another value, in each place.
func TestNumbersRefuses(t *testing.T) {
	for _, wrong := range []int{-1, 2, 3, 1 << 32, 1<<32 + 1, least, great} {
		for place := range 4 {
			values := []int{0, 1, 1, 0}
			values[place] = wrong
			numbersFor.refuses(t, "a value", given{values: values}, api.ErrNoise)
		}
		numbersFor.refuses(t, "a value alone", given{values: []int{wrong}}, api.ErrNoise)
	}
}

// P24.5: Choose comes to the value, if both weights are alike, or the other one is 0; to 1 whenever it has a weight, and to 0 of any weights that are not much less than the other.
func TestNumbersAreChosen(t *testing.T) {
	us := numbersFor.answer(t, given{values: []int{0, 1}}).floats
	chosen := func(zero, one float64, wanted int) {
		t.Helper()
		if v, e := odds.Choose(zero, one, us[wanted]); v != wanted || e != api.OK {
			t.Errorf("of %v and %v: %d, error %d, not %d", zero, one, v, e, wanted)
		}
	}
	for k := 0; k <= 1022; k++ {
		w := math.Ldexp(1, -k)
		chosen(w, w, 0)
		chosen(w, w, 1)
		chosen(w, 0, 0)
		chosen(0, w, 1)
		chosen(1, w, 1)
	}
	for _, w := range []float64{tiny, 0.1, 1 - 0x1p-53, 3, 0x1p1022} {
		chosen(w, 0, 0)
		chosen(0, w, 1)
		chosen(w, w, 1)
	}
	chosen(0.25, 0.75, 0)
	chosen(0.75, 0.25, 1)
	chosen(0x1p-20, 1-0x1p-20, 0)
}
