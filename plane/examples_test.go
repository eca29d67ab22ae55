package plane_test

import (
	"slices"
	"testing"

	"phasor/api"
	"phasor/plane"
)

// The chapter's examples, as they stand there.

func TestExampleOne(t *testing.T) {
	want(t, "1+2i times 3+4i", plane.Mul(1+2i, 3+4i), -5+10i)
	want(t, "i times i", plane.Mul(1i, 1i), -1)
	want(t, "inf times i", plane.Mul(complex(inf, 0), complex(0, 1)), complex(nan, inf))
}

func TestExampleTwo(t *testing.T) {
	turned := plane.Turn(0, 2)
	want(t, "Turn", turned, complex(minus0, minus0))
	want(t, "Clean", plane.Clean(turned), 0)
	c := plane.Conj(1)
	want(t, "Conj", c, complex(1, minus0))
	if !plane.Equal(c, 1) || plane.Same(c, 1) {
		t.Error("Equal, not Same")
	}
}

func TestExampleThree(t *testing.T) {
	l := []complex128{1e16, 1, 1, -1e16}
	want(t, "Pairwise", plane.Pairwise(l), 0)
	want(t, "Sum", plane.Sum(l), 0)
	for _, c := range []struct {
		a, want complex128
		n       int
		e       api.Errno
	}{{1 + 1i, complex(least, least), 1074, api.OK}, {1, 0, 1075, api.OK}, {1, 0, 2001, api.ErrPlane}} {
		if z, e := plane.Half(c.a, c.n); !same(z, c.want) || e != c.e {
			t.Errorf("%x, %d: %x %d", c.a, c.n, z, e)
		}
	}
}

func TestExampleFour(t *testing.T) {
	if z, e := plane.Dot([]complex128{1i}, []complex128{1i}); !same(z, 1) || e != api.OK {
		t.Errorf("Dot: %x %d", z, e)
	}
	if z := plane.Div(1, 1i); !plane.Equal(z, -1i) {
		t.Errorf("Div: %x", z)
	}
	want(t, "Div by 0", plane.Div(1, 0), complex(nan, nan))
	want(t, "Horner", plane.Horner([]complex128{1, 2, 3}, 2), 17)
	for _, c := range [][2][]complex128{{{1, 0, 0, 0}, {1, 1, 1, 1}}, {{0, 1, 0, 0}, {1, 1i, -1, -1i}}} {
		if l, e := plane.Fourier(c[0]); e != api.OK || !slices.EqualFunc(l, c[1], plane.Equal) {
			t.Errorf("Fourier: %x %d", l, e)
		}
	}
}
