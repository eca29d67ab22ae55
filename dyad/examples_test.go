package dyad_test

import (
	"math"
	"testing"

	"phasor/api"
	"phasor/dyad"
)

// The chapter's examples, as they stand there.

func TestExampleOne(t *testing.T) {
	x, e := dyad.Make(2, 4, 2)
	want(t, "2, 4, 2", x, e, d(1, 2, 1), api.OK)
	x, e = dyad.Make(0, 0, 60)
	want(t, "0, 0, 60", x, e, d(0, 0, 0), api.OK)
	x, e = dyad.Make(1, 0, 61)
	want(t, "1, 0, 61", x, e, d(0, 0, 0), api.ErrExact)
	if e := dyad.Check(d(2, 4, 2)); e != api.ErrArg {
		t.Errorf("Check: %d", e)
	}
}

func TestExampleTwo(t *testing.T) {
	x, e := dyad.Add(d(1, 0, 1), d(1, 0, 1))
	want(t, "1/2 + 1/2", x, e, d(1, 0, 0), api.OK)
	x, e = dyad.Add(d(1<<53, 0, 0), d(1, 0, 0))
	want(t, "2^53 + 1", x, e, d(0, 0, 0), api.ErrExact)
	x, e = dyad.Add(d(1<<53, 0, 0), d(1<<53, 0, 0))
	want(t, "2^53 + 2^53", x, e, d(0, 0, 0), api.ErrExact)
	x, e = dyad.Mul(d(1, 1, 1), d(1, -1, 1))
	want(t, "(1 + i)/2 * (1 - i)/2", x, e, d(1, 0, 1), api.OK)
}

func TestExampleThree(t *testing.T) {
	x, e := dyad.From(0.75 - 0.5i)
	want(t, "From", x, e, d(3, -2, 2), api.OK)
	x, e = dyad.From(complex(minus0, 0))
	want(t, "From -0", x, e, d(0, 0, 0), api.OK)
	for _, z := range []complex128{0x1p-61, 1e300, complex(math.NaN(), 0)} {
		x, e = dyad.From(z)
		want(t, "From", x, e, d(0, 0, 0), api.ErrExact)
	}
	for text, x := range map[string]api.Dyad{"3-2i/4": d(3, -2, 2), "0+0i": d(0, 0, 0), "-1+0i": d(-1, 0, 0)} {
		if got, e := dyad.Print(x); got != text || e != api.OK {
			t.Errorf("Print %v: %q %d", x, got, e)
		}
	}
}

func TestExampleFour(t *testing.T) {
	x, e := dyad.Parse("3-2i/4")
	want(t, "Parse", x, e, d(3, -2, 2), api.OK)
	for _, s := range []string{"6-4i/8", "3-2i/3", "3-0i", "03+0i", "1+0i/1"} {
		x, e := dyad.Parse(s)
		want(t, s, x, e, d(0, 0, 0), api.ErrExact)
	}
}
