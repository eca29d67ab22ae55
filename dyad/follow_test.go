package dyad_test

import (
	"math/rand"
	"testing"

	"phasor/api"
	"phasor/dyad"
	"phasor/plane"
)

// P5.5: of dyads whose sums and products are mostly not refused, and of the edges.
func TestFollows(t *testing.T) {
	chance := rand.New(rand.NewSource(57))
	for _, bits := range []int{3, 12, 26, 53} {
		for range 4000 {
			follows(t, anyRight(chance, bits), anyRight(chance, bits), anyRight(chance, bits))
		}
	}
	l := rightOnes()
	for i, a := range l {
		follows(t, a, l[i*7%len(l)], l[i*13%len(l)])
	}
}

// P5.5: none of what follows is empty: small dyads are never refused.
func TestSmallOnesAreNeverRefused(t *testing.T) {
	chance := rand.New(rand.NewSource(58))
	small := func() api.Dyad {
		return settle(d(chance.Int63n(201)-100, chance.Int63n(201)-100, chance.Intn(7)))
	}
	for range 5000 {
		a, b, c := small(), small(), small()
		follows(t, a, b, c)
		p, e := dyad.Mul(a, b)
		s, f := dyad.Add(p, c)
		q, g := dyad.Square(s)
		if e != api.OK || f != api.OK || g != api.OK || dyad.Check(q) != api.OK {
			t.Errorf("%v %v %v: %d %d %d %v", a, b, c, e, f, g, q)
		}
	}
}

// FuzzFollows is P5.5, and what P5.2 to P5.4 tell of any numbers.
func FuzzFollows(f *testing.F) {
	f.Add(int64(1), int64(1), 1, int64(1), int64(-1), 1, "3-2i/4", 0.75)
	f.Add(int64(top), int64(-top), 0, int64(1), int64(0), 60, "1+0i/1", 0x1p-61)
	f.Add(int64(1)<<31+1, int64(0), 31, int64(1)<<31, int64(3), 30, "-9007199254740992+1i/1152921504606846976", 1e300)
	f.Fuzz(func(t *testing.T, re, im int64, exp int, moreRe, moreIm int64, moreExp int, s string, x float64) {
		a, e := dyad.Make(re, im, exp)
		b, g := dyad.Make(moreRe, moreIm, moreExp)
		if dyad.Check(a) != api.OK || dyad.Check(b) != api.OK {
			t.Fatalf("Make: %v %v", a, b)
		}
		if e == api.OK && g == api.OK {
			follows(t, a, b, settle(d(b.Im, a.Re, min(a.Exp, b.Exp))))
			reckoned(t, a, b)
		}
		come(t, complex(x, x/2))
		if c, e := dyad.Parse(s); e == api.OK {
			if again, e := dyad.Print(c); again != s || e != api.OK || dyad.Check(c) != api.OK {
				t.Errorf("Parse %q: %v %q %d", s, c, again, e)
			}
		}
	})
}

func follows(t *testing.T, a, b, c api.Dyad) {
	t.Helper()
	thereAndBack(t, a)
	ring(t, a, b, c)
	withPlane(t, a, b)
	squares(t, a, b)
}

func thereAndBack(t *testing.T, a api.Dyad) {
	t.Helper()
	z, e := dyad.To(a)
	if e != api.OK {
		t.Errorf("To %v: %d", a, e)
	}
	x, e := dyad.From(z)
	want(t, "From of To", x, e, a, api.OK)
	s, e := dyad.Print(a)
	if e != api.OK {
		t.Errorf("Print %v: %d", a, e)
	}
	x, e = dyad.Parse(s)
	want(t, "Parse of Print", x, e, a, api.OK)
}

func ring(t *testing.T, a, b, c api.Dyad) {
	t.Helper()
	s, sum := dyad.Add(a, b)
	x, e := dyad.Add(b, a)
	want(t, "b + a", x, e, s, sum)
	ac, first := dyad.Mul(a, c)
	x, e = dyad.Mul(c, a)
	want(t, "c * a", x, e, ac, first)
	bc, second := dyad.Mul(b, c)
	if sum != api.OK || first != api.OK || second != api.OK {
		return
	}
	left, e := dyad.Mul(s, c)
	right, f := dyad.Add(ac, bc)
	if e == api.OK && f == api.OK {
		want(t, "(a + b) * c", left, e, right, f)
	}
}

func withPlane(t *testing.T, a, b api.Dyad) {
	t.Helper()
	za, _ := dyad.To(a)
	zb, _ := dyad.To(b)
	equal := func(what string, x api.Dyad, e api.Errno, other complex128) {
		t.Helper()
		if e != api.OK {
			return
		}
		if z, e := dyad.To(x); e != api.OK || !plane.Equal(z, other) {
			t.Errorf("%s of %v and %v: %x %d, not %x", what, a, b, z, e, other)
		}
	}
	x, e := dyad.Add(a, b)
	equal("Add", x, e, plane.Add(za, zb))
	x, e = dyad.Sub(a, b)
	equal("Sub", x, e, plane.Sub(za, zb))
	if short(a) && short(b) {
		x, e = dyad.Mul(a, b)
		equal("Mul", x, e, plane.Mul(za, zb))
	}
}

// short tells whether both parts are from -2^26 to 2^26.
func short(a api.Dyad) bool {
	return max(a.Re, -a.Re, a.Im, -a.Im) <= 1<<26
}

func squares(t *testing.T, a, b api.Dyad) {
	t.Helper()
	p, e := dyad.Mul(a, b)
	if e != api.OK {
		return
	}
	of, e := dyad.Square(p)
	sa, f := dyad.Square(a)
	sb, g := dyad.Square(b)
	if e != api.OK || f != api.OK || g != api.OK {
		return
	}
	if both, h := dyad.Mul(sa, sb); h == api.OK {
		want(t, "the Square of a product", of, e, both, h)
	}
}
