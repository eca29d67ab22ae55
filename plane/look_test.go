package plane_test

import (
	"math"
	"testing"

	"phasor/plane"
)

// P3.4: what is equal by ==, and what has the same bits, of any parts.
func TestEqualAndSame(t *testing.T) {
	pairs(func(a, b complex128) {
		if got := plane.Equal(a, b); got != (real(a) == real(b) && imag(a) == imag(b)) {
			t.Errorf("Equal %x %x: %v", a, b, got)
		}
		if got := plane.Same(a, b); got != same(a, b) {
			t.Errorf("Same %x %x: %v", a, b, got)
		}
	})
	for _, c := range []struct {
		a, b        complex128
		equal, same bool
	}{
		{1 + 2i, 1 + 2i, true, true},
		{1 + 2i, 1 - 2i, false, false},
		{1 + 2i, 2 + 2i, false, false},
		{complex(minus0, 0), 0, true, false},
		{complex(0, minus0), 0, true, false},
		{complex(minus0, minus0), complex(minus0, minus0), true, true},
		{complex(nan, 0), complex(nan, 0), false, true},
		{complex(0, nan), complex(0, nan), false, true},
		{complex(nan, 1), complex(math.Float64frombits(0xfff0000000000001), 1), false, true},
		{complex(nan, 0), complex(nan, minus0), false, false},
		{complex(nan, 0), complex(0, nan), false, false},
		{complex(inf, -inf), complex(inf, -inf), true, true},
		{complex(inf, inf), complex(inf, -inf), false, false},
		{complex(1, 0), complex(1+0x1p-52, 0), false, false},
	} {
		if plane.Equal(c.a, c.b) != c.equal || plane.Equal(c.b, c.a) != c.equal || plane.Same(c.a, c.b) != c.same || plane.Same(c.b, c.a) != c.same {
			t.Errorf("%x %x: %v %v", c.a, c.b, plane.Equal(c.a, c.b), plane.Same(c.a, c.b))
		}
	}
}

// P3.4: one part that is infinite or NaN is enough not to be finite; one that is infinite, to be infinite, whatever the other is.
func TestFiniteAndInfinite(t *testing.T) {
	for _, a := range numbers() {
		none, some := true, false
		for _, x := range []float64{real(a), imag(a)} {
			none = none && x == x && !math.IsInf(x, 0)
			some = some || math.IsInf(x, 0)
		}
		if plane.Finite(a) != none || plane.Infinite(a) != some {
			t.Errorf("%x: %v %v", a, plane.Finite(a), plane.Infinite(a))
		}
	}
	for _, a := range []complex128{complex(inf, nan), complex(nan, inf), complex(-inf, 0), complex(0, -inf)} {
		if plane.Finite(a) || !plane.Infinite(a) {
			t.Errorf("%x", a)
		}
	}
	for _, a := range []complex128{complex(nan, 0), complex(0, nan), complex(nan, nan)} {
		if plane.Finite(a) || plane.Infinite(a) {
			t.Errorf("%x", a)
		}
	}
	if a := complex(most, -least); !plane.Finite(a) || plane.Infinite(a) {
		t.Errorf("%x", a)
	}
}
