package dyad_test

import (
	"math"
	"math/big"
	"math/rand"
	"testing"

	"phasor/api"
	"phasor/dyad"
)

// come holds From against the fractions that a number's parts are.
func come(t *testing.T, z complex128) {
	t.Helper()
	wanted, errno := api.Dyad{}, api.ErrExact
	re, im := new(big.Rat).SetFloat64(real(z)), new(big.Rat).SetFloat64(imag(z))
	if re != nil && im != nil { // there is no fraction of an infinity or a NaN
		wanted, errno = exact{re, im}.dyad()
	}
	x, e := dyad.From(z)
	if x != wanted || e != errno {
		t.Errorf("From %x: %v %d, not %v %d", z, x, e, wanted, errno)
	}
}

// P5.3: numbers whose parts are of all kinds, in all pairs.
func TestFromEdges(t *testing.T) {
	var parts []float64
	for _, x := range []float64{0, 1, 3, 0.5, 0.75, 0.1, 0x1p-59, 0x1p-60, 0x3p-60, 0x1p-61, 0x1p-62, 0x3p-61, 0x1p-7, 0x1p-8, 1<<53 - 1, 1 << 53, 1<<53 + 2, 1 << 54, 1<<52 + 0.5, 1<<51 + 0.25, 0x1.fffffffffffffp-8, 0x1.fffffffffffffp-9, 1e300, math.MaxFloat64, math.SmallestNonzeroFloat64, 0x1p-1022, inf} {
		parts = append(parts, x, math.Copysign(x, -1))
	}
	parts = append(parts, nan)
	for _, re := range parts {
		for _, im := range parts {
			come(t, complex(re, im))
		}
	}
}

// P5.3: numbers of any bits, most of them near the edges.
func TestFromAny(t *testing.T) {
	chance := rand.New(rand.NewSource(53))
	part := func() float64 {
		x := float64(chance.Int63n(1<<chance.Intn(56)+1)) - float64(chance.Int63n(1<<chance.Intn(56)+1))
		return math.Ldexp(x, -chance.Intn(66))
	}
	for range 8000 {
		come(t, complex(part(), part()))
		come(t, complex(math.Float64frombits(chance.Uint64()), part()))
	}
}

// P5.3: by hand: one form for each number, noughts of either sign, and what is refused.
func TestFrom(t *testing.T) {
	for _, c := range []struct {
		z    complex128
		want api.Dyad
		e    api.Errno
	}{
		{complex(minus0, minus0), d(0, 0, 0), api.OK},
		{complex(minus0, -1), d(0, -1, 0), api.OK},
		{0.5, d(1, 0, 1), api.OK},
		{0.5i, d(0, 1, 1), api.OK},
		{0.5 + 0.25i, d(2, 1, 2), api.OK},
		{12 - 0.125i, d(96, -1, 3), api.OK},
		{12 - 6i, d(12, -6, 0), api.OK},
		{0x1p-60, d(1, 0, 60), api.OK},
		{-0x1p-60i, d(0, -1, 60), api.OK},
		{0x1p-61, api.Dyad{}, api.ErrExact},
		{0x1p-61i, api.Dyad{}, api.ErrExact},
		{1 + 0x1p-60i, api.Dyad{}, api.ErrExact},
		{0x1p-7 + 0x1p-60i, d(top, 1, 60), api.OK},
		{1 << 53, d(top, 0, 0), api.OK},
		{-1 << 53, d(-top, 0, 0), api.OK},
		{1<<53 + 2, api.Dyad{}, api.ErrExact},
		{-1<<53 - 2, api.Dyad{}, api.ErrExact},
		{(1<<53 + 2) * 1i, api.Dyad{}, api.ErrExact},
		{0x1p100, api.Dyad{}, api.ErrExact},
		{1<<53 + 0.5i, api.Dyad{}, api.ErrExact},
		{1<<52 + 0.5i, d(top, 1, 1), api.OK},
		{0.1, d(0xccccccccccccd, 0, 55), api.OK},
		{complex(inf, 0), api.Dyad{}, api.ErrExact},
		{complex(0, -inf), api.Dyad{}, api.ErrExact},
		{complex(nan, nan), api.Dyad{}, api.ErrExact},
		{complex(1, nan), api.Dyad{}, api.ErrExact},
	} {
		x, e := dyad.From(c.z)
		want(t, "From", x, e, c.want, c.e)
	}
}

// P5.3: the number of just that value, with noughts without a sign.
func TestTo(t *testing.T) {
	for _, a := range manyRight(54) {
		z, e := dyad.To(a)
		re, just := part(a.Re, a.Exp)
		im, justToo := part(a.Im, a.Exp)
		if e != api.OK || !just || !justToo || math.Float64bits(real(z)) != re || math.Float64bits(imag(z)) != im {
			t.Errorf("To %v: %x %d", a, z, e)
		}
	}
	for x, wanted := range map[api.Dyad]complex128{d(3, -2, 2): 0.75 - 0.5i, d(1, 0, 60): 0x1p-60, d(0, -top, 0): -0x1p53i, d(-1, 0, 0): -1} {
		if z, e := dyad.To(x); z != wanted || e != api.OK || math.Signbit(real(z)) != (x.Re < 0) || math.Signbit(imag(z)) != (x.Im < 0) {
			t.Errorf("To %v: %x %d", x, z, e)
		}
	}
}

// part is the bits of the float that is part / 2^exp, and whether there is just that one.
func part(part int64, exp int) (uint64, bool) {
	x, just := new(big.Rat).SetFrac(big.NewInt(part), new(big.Int).Lsh(big.NewInt(1), uint(exp))).Float64()
	return math.Float64bits(x), just
}
