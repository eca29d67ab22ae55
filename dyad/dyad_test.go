package dyad_test

import (
	"math"
	"math/rand"
	"testing"

	"phasor/api"
	"phasor/dyad"
)

// P5.1: powers from 0 to 60, and no others, whatever the parts.
func TestMakePowers(t *testing.T) {
	for exp := -3; exp <= 70; exp++ {
		for _, part := range []int64{0, 1, -1, math.MinInt64, math.MaxInt64} {
			wanted, errno := d(1, part, exp), api.OK
			if exp < 0 || exp > 60 || part == math.MinInt64 || part == math.MaxInt64 {
				wanted, errno = api.Dyad{}, api.ErrExact
			}
			x, e := dyad.Make(1, part, exp)
			want(t, "Make", x, e, wanted, errno)
		}
	}
	for _, exp := range []int{-1, 61, 64, 120, math.MinInt, math.MaxInt} {
		for _, part := range []int64{0, 1, 1 << 60} {
			x, e := dyad.Make(part, part, exp)
			want(t, "Make", x, e, api.Dyad{}, api.ErrExact)
		}
	}
}

// P5.1: parts are halved while both are even and the power is above 0; what is then out of range is refused.
func TestMakeHalves(t *testing.T) {
	for _, c := range []struct {
		re, im int64
		exp    int
		want   api.Dyad
		e      api.Errno
	}{
		{0, 0, 0, d(0, 0, 0), api.OK},
		{0, 0, 1, d(0, 0, 0), api.OK},
		{2, 4, 0, d(2, 4, 0), api.OK},
		{2, 4, 1, d(1, 2, 0), api.OK},
		{8, 4, 2, d(2, 1, 0), api.OK},
		{8, 4, 9, d(2, 1, 7), api.OK},
		{-8, 4, 9, d(-2, 1, 7), api.OK},
		{-6, 0, 60, d(-3, 0, 59), api.OK},
		{0, -6, 60, d(0, -3, 59), api.OK},
		{4, 1, 5, d(4, 1, 5), api.OK},
		{1, 4, 5, d(1, 4, 5), api.OK},
		{top, -top, 0, d(top, -top, 0), api.OK},
		{top, top, 60, d(1, 1, 7), api.OK},
		{2 * top, 0, 0, api.Dyad{}, api.ErrExact},
		{2 * top, 0, 1, d(top, 0, 0), api.OK},
		{2 * top, -2 * top, 1, d(top, -top, 0), api.OK},
		{2 * top, 1, 1, api.Dyad{}, api.ErrExact},
		{1, 2 * top, 1, api.Dyad{}, api.ErrExact},
		{top + 1, 0, 0, api.Dyad{}, api.ErrExact},
		{-top - 1, 0, 0, api.Dyad{}, api.ErrExact},
		{0, top + 1, 0, api.Dyad{}, api.ErrExact},
		{0, -top - 1, 0, api.Dyad{}, api.ErrExact},
		{top + 2, 0, 1, d(top/2+1, 0, 0), api.OK},
		{2*top + 2, 0, 1, api.Dyad{}, api.ErrExact},
		{2*top + 2, 0, 60, api.Dyad{}, api.ErrExact},
		{math.MinInt64, 0, 9, api.Dyad{}, api.ErrExact},
		{math.MinInt64, 0, 10, d(-top, 0, 0), api.OK},
		{math.MinInt64, math.MinInt64, 60, d(-8, -8, 0), api.OK},
		{0, math.MinInt64, 60, d(0, -8, 0), api.OK},
		{math.MinInt64, 1, 60, api.Dyad{}, api.ErrExact},
		{math.MaxInt64, math.MaxInt64, 60, api.Dyad{}, api.ErrExact},
	} {
		x, e := dyad.Make(c.re, c.im, c.exp)
		want(t, "Make", x, e, c.want, c.e)
	}
}

// P5.1: of parts of any bits Make finds what trying every power finds.
func TestMakeOfAny(t *testing.T) {
	chance := rand.New(rand.NewSource(51))
	for range 20000 {
		re := int64(chance.Uint64()) >> chance.Intn(64) << chance.Intn(20)
		im := int64(chance.Uint64()) >> chance.Intn(64) << chance.Intn(20)
		exp := chance.Intn(61)
		wanted, errno := valueOf(d(re, im, exp)).dyad()
		x, e := dyad.Make(re, im, exp)
		want(t, "Make", x, e, wanted, errno)
	}
}

// P5.1: what is right, and what is not.
func TestCheck(t *testing.T) {
	for _, x := range rightOnes() {
		if e := dyad.Check(x); e != api.OK {
			t.Errorf("%v: %d", x, e)
		}
	}
	for _, x := range wrongOnes() {
		if e := dyad.Check(x); e != api.ErrArg {
			t.Errorf("%v: %d", x, e)
		}
	}
	for re := int64(-5); re <= 5; re++ {
		for im := int64(-5); im <= 5; im++ {
			for exp := range 4 {
				x := d(re, im, exp)
				if e := dyad.Check(x); e == api.OK != (settle(x) == x) {
					t.Errorf("%v: %d", x, e)
				}
			}
		}
	}
}
