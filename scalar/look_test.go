package scalar_test

import (
	"math"
	"testing"

	"phasor/api"
	"phasor/scalar"
)

// P2.1: the classes, at their edges and with either sign.
func TestClass(t *testing.T) {
	for _, c := range []struct {
		x    float64
		want api.Class
	}{
		{0, api.ClassZero},
		{least, api.ClassSubnormal},
		{2 * least, api.ClassSubnormal},
		{normal / 2, api.ClassSubnormal},
		{normal - least, api.ClassSubnormal},
		{normal, api.ClassNormal},
		{normal + least, api.ClassNormal},
		{0.5, api.ClassNormal},
		{1, api.ClassNormal},
		{most, api.ClassNormal},
		{inf, api.ClassInf},
	} {
		for _, x := range []float64{c.x, math.Copysign(c.x, -1)} {
			if got := scalar.Class(x); got != c.want {
				t.Errorf("%x: %d, not %d", x, got, c.want)
			}
		}
	}
	for _, x := range nans() {
		if got := scalar.Class(x); got != api.ClassNaN {
			t.Errorf("%x: %d", math.Float64bits(x), got)
		}
	}
}

// P2.1: the sign bit, of which a NaN has none.
func TestSigned(t *testing.T) {
	for _, x := range samples() {
		if got, want := scalar.Signed(x), math.Signbit(x) && x == x; got != want {
			t.Errorf("%x: %v", math.Float64bits(x), got)
		}
	}
	if scalar.Signed(0) || !scalar.Signed(minus0) || !scalar.Signed(-inf) || scalar.Signed(inf) {
		t.Error("noughts and infinities")
	}
}

// P2.1: the bits, of every NaN the same.
func TestBits(t *testing.T) {
	for _, c := range []struct {
		x    float64
		want uint64
	}{
		{0, 0},
		{minus0, 0x8000000000000000},
		{least, 1},
		{-least, 0x8000000000000001},
		{normal, 0x0010000000000000},
		{1, 0x3ff0000000000000},
		{-2, 0xc000000000000000},
		{-0.75, 0xbfe8000000000000},
		{most, 0x7fefffffffffffff},
		{inf, 0x7ff0000000000000},
		{-inf, 0xfff0000000000000},
	} {
		if got := scalar.Bits(c.x); got != c.want {
			t.Errorf("%x: %x, not %x", c.x, got, c.want)
		}
		wantFloat(t, "Of", scalar.Of(c.want), c.x)
	}
	for _, x := range nans() {
		if got := scalar.Bits(x); got != 0x7ff8000000000001 {
			t.Errorf("a NaN: %x", got)
		}
	}
}

// P2.1: Of has the bits that it is given, be they a NaN's.
func TestOf(t *testing.T) {
	for _, x := range samples() {
		b := math.Float64bits(x)
		if got := scalar.Of(b); math.Float64bits(got) != b {
			t.Errorf("%x: %x", b, math.Float64bits(got))
		}
		if x == x && scalar.Bits(x) != b {
			t.Errorf("%x: %x", b, scalar.Bits(x))
		}
	}
}
