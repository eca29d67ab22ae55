package dyad_test

import (
	"math"
	"math/big"
	"math/rand"
	"testing"

	"phasor/api"
	"phasor/dyad"
)

func sum(a, b exact) exact {
	return exact{new(big.Rat).Add(a.re, b.re), new(big.Rat).Add(a.im, b.im)}
}

func difference(a, b exact) exact {
	return exact{new(big.Rat).Sub(a.re, b.re), new(big.Rat).Sub(a.im, b.im)}
}

func product(a, b exact) exact {
	ac, bd := new(big.Rat).Mul(a.re, b.re), new(big.Rat).Mul(a.im, b.im)
	ad, bc := new(big.Rat).Mul(a.re, b.im), new(big.Rat).Mul(a.im, b.re)
	return exact{ac.Sub(ac, bd), ad.Add(ad, bc)}
}

// tooGreat tells whether one of the four products of parts is.
func tooGreat(a, b api.Dyad) bool {
	limit := new(big.Int).Lsh(big.NewInt(1), 61)
	for _, x := range []int64{a.Re, a.Im} {
		for _, y := range []int64{b.Re, b.Im} {
			if new(big.Int).Mul(big.NewInt(x), big.NewInt(y)).CmpAbs(limit) > 0 {
				return true
			}
		}
	}
	return false
}

// reckoned holds every call of two dyads, and those of one, against fractions of any size.
func reckoned(t *testing.T, a, b api.Dyad) {
	t.Helper()
	x, y := valueOf(a), valueOf(b)
	wanted, errno := sum(x, y).dyad()
	got, e := dyad.Add(a, b)
	want(t, "Add", got, e, wanted, errno)
	wanted, errno = difference(x, y).dyad()
	got, e = dyad.Sub(a, b)
	want(t, "Sub", got, e, wanted, errno)
	wanted, errno = product(x, y).dyad()
	if tooGreat(a, b) {
		wanted, errno = api.Dyad{}, api.ErrExact
	}
	got, e = dyad.Mul(a, b)
	want(t, "Mul", got, e, wanted, errno)
	squared(t, a)
}

func squared(t *testing.T, a api.Dyad) {
	t.Helper()
	other := d(a.Re, -a.Im, a.Exp)
	wanted, errno := product(valueOf(a), valueOf(other)).dyad()
	if tooGreat(a, other) {
		wanted, errno = api.Dyad{}, api.ErrExact
	}
	got, e := dyad.Square(a)
	want(t, "Square", got, e, wanted, errno)
}

// P5.2: the edges of parts and powers, each with many others.
func TestReckonEdges(t *testing.T) {
	l := rightOnes()
	for i, a := range l {
		for j := i % 211; j < len(l); j += 211 {
			reckoned(t, a, l[j])
		}
		reckoned(t, a, a)
		reckoned(t, a, d(-a.Re, -a.Im, a.Exp))
		reckoned(t, a, d(a.Re, -a.Im, a.Exp))
		reckoned(t, a, api.Dyad{})
	}
}

// P5.2: dyads of any size.
func TestReckonAny(t *testing.T) {
	chance := rand.New(rand.NewSource(52))
	for _, bits := range []int{2, 10, 27, 31, 53} {
		for range 3000 {
			reckoned(t, anyRight(chance, bits), anyRight(chance, bits))
		}
	}
}

// P5.2: sums and differences by hand: halved, brought over one power, and refused where they have no right dyad.
func TestAddAndSub(t *testing.T) {
	for _, c := range []struct {
		a, b, sum api.Dyad
		e         api.Errno
	}{
		{d(0, 0, 0), d(0, 0, 0), d(0, 0, 0), api.OK},
		{d(1, 2, 0), d(3, -5, 0), d(4, -3, 0), api.OK},
		{d(1, 2, 1), d(3, -5, 2), d(5, -1, 2), api.OK},
		{d(1, 1, 60), d(1, 1, 60), d(1, 1, 59), api.OK},
		{d(1, 1, 60), d(-1, -1, 60), d(0, 0, 0), api.OK},
		{d(1, 0, 2), d(3, 0, 2), d(1, 0, 0), api.OK},
		{d(1, 0, 60), d(0, 1, 60), d(1, 1, 60), api.OK},
		{d(top-1, 0, 0), d(1, 0, 0), d(top, 0, 0), api.OK},
		{d(top, 0, 0), d(1, 0, 0), d(0, 0, 0), api.ErrExact},
		{d(-top, 0, 0), d(-1, 0, 0), d(0, 0, 0), api.ErrExact},
		{d(0, top, 0), d(0, 1, 0), d(0, 0, 0), api.ErrExact},
		{d(0, -top, 0), d(0, -1, 0), d(0, 0, 0), api.ErrExact},
		{d(top, 0, 0), d(-top, 0, 0), d(0, 0, 0), api.OK},
		// Both halves are odd, so their sum can be halved into its range.
		{d(top-1, 1, 1), d(top-1, 1, 1), d(top-1, 1, 0), api.OK},
		{d(top-1, 0, 60), d(top-1, 0, 60), d(top-1, 0, 59), api.OK},
		{d(top-1, 0, 60), d(1, 0, 60), d(1, 0, 7), api.OK},
		{d(top, 1, 1), d(1, 0, 1), d(0, 0, 0), api.ErrExact},
		{d(top, 1, 1), d(top, 1, 1), d(top, 1, 0), api.OK},
		// Brought over the other's power.
		{d(1, 0, 0), d(1, 0, 60), d(0, 0, 0), api.ErrExact},
		{d(1, 0, 0), d(0, 1, 60), d(0, 0, 0), api.ErrExact},
		{d(1, 0, 0), d(0, 1, 53), d(top, 1, 53), api.OK},
		{d(1, 0, 0), d(0, 1, 54), d(0, 0, 0), api.ErrExact},
		{d(1, 0, 0), d(-1, 0, 54), d(0, 0, 0), api.ErrExact},
		{d(1, 0, 7), d(0, -1, 60), d(top, -1, 60), api.OK},
		{d(1, 0, 0), d(-1, 0, 53), d(top-1, 0, 53), api.OK},
		{d(1, 0, 0), d(1, 0, 53), d(0, 0, 0), api.ErrExact},
		{d(2, 0, 0), d(1-top, 0, 53), d(0, 0, 0), api.ErrExact},
		{d(2, 0, 0), d(1, -top, 53), d(0, 0, 0), api.ErrExact},
		{d(top, top, 0), d(1, 1, 60), d(0, 0, 0), api.ErrExact},
		{d(-16, 0, 0), d(1, 0, 60), d(0, 0, 0), api.ErrExact},
		{d(16, 0, 0), d(0, 1, 60), d(0, 0, 0), api.ErrExact},
		// What is brought over is just below 2^63, 2^64 and 2^65: cut to 64 bits it would be small.
		{d(top-1, 0, 0), d(1, 0, 10), d(0, 0, 0), api.ErrExact},
		{d(top-1, 0, 0), d(1, 0, 11), d(0, 0, 0), api.ErrExact},
		{d(0, 1-top, 0), d(0, 1, 11), d(0, 0, 0), api.ErrExact},
		{d(0, top-1, 0), d(0, 1, 12), d(0, 0, 0), api.ErrExact},
		{d(0, 0, 0), d(1, top, 60), d(1, top, 60), api.OK},
		{d(0, top, 0), d(1, 0, 60), d(0, 0, 0), api.ErrExact},
	} {
		x, e := dyad.Add(c.a, c.b)
		want(t, "Add", x, e, c.sum, c.e)
		x, e = dyad.Sub(c.a, d(-c.b.Re, -c.b.Im, c.b.Exp))
		want(t, "Sub", x, e, c.sum, c.e)
		x, e = dyad.Add(c.b, c.a)
		want(t, "Add the other way round", x, e, c.sum, c.e)
	}
	x, e := dyad.Sub(d(1, 2, 0), d(3, -5, 1))
	want(t, "Sub", x, e, d(-1, 9, 1), api.OK)
}

// P5.2: products by hand: those whose parts' products are too great, and those whose power is, unless they can be halved.
func TestMul(t *testing.T) {
	for _, c := range []struct {
		a, b, want api.Dyad
		e          api.Errno
	}{
		{d(1, 2, 0), d(3, 4, 0), d(-5, 10, 0), api.OK},
		{d(2, 3, 0), d(5, -7, 0), d(31, 1, 0), api.OK},
		{d(0, 1, 0), d(0, 1, 0), d(-1, 0, 0), api.OK},
		{d(1, 1, 1), d(1, 1, 1), d(0, 1, 1), api.OK},
		{d(2, 0, 0), d(1, 1, 1), d(1, 1, 0), api.OK},
		{d(0, 0, 0), d(top, 1, 60), d(0, 0, 0), api.OK},
		// The sum of the powers is above 60: halved once, and not enough.
		{d(1, 1, 31), d(1, 1, 30), d(0, 1, 60), api.OK},
		{d(1, 1, 60), d(1, 1, 1), d(0, 1, 60), api.OK},
		{d(1, 1, 31), d(1, 1, 31), d(0, 0, 0), api.ErrExact},
		{d(1, 1, 60), d(1, 1, 60), d(0, 0, 0), api.ErrExact},
		{d(1, 0, 31), d(1, 0, 30), d(0, 0, 0), api.ErrExact},
		{d(1, 0, 30), d(1, 0, 30), d(1, 0, 60), api.OK},
		{d(1, 0, 60), d(1, 0, 60), d(0, 0, 0), api.ErrExact},
		{d(1, 0, 60), d(1, 0, 0), d(1, 0, 60), api.OK},
		{d(1, 0, 60), d(1, 0, 1), d(0, 0, 0), api.ErrExact},
		{d(1, 0, 60), d(top, 0, 0), d(1, 0, 7), api.OK},
		// A product of 2^61 may be; one above it may not, though the whole could be halved or taken away.
		{d(1<<31, 0, 0), d(1<<30, 1, 60), d(1<<30, 1, 29), api.OK},
		{d(-1<<31, 0, 0), d(1<<30, 1, 60), d(-1<<30, -1, 29), api.OK},
		{d(1<<31, 0, 0), d(1<<30+1, 1, 60), d(0, 0, 0), api.ErrExact},
		{d(-1<<31, 0, 0), d(1<<30+1, 1, 60), d(0, 0, 0), api.ErrExact},
		{d(256, 0, 0), d(top, 1, 60), d(top, 1, 52), api.OK},
		{d(257, 0, 0), d(top, 1, 60), d(0, 0, 0), api.ErrExact},
		{d(0, 257, 0), d(top, 1, 60), d(0, 0, 0), api.ErrExact},
		{d(512, 0, 0), d(top, 1, 60), d(0, 0, 0), api.ErrExact},
		{d(512, 0, 0), d(1, top, 60), d(0, 0, 0), api.ErrExact},
		{d(0, 512, 0), d(1, top, 60), d(0, 0, 0), api.ErrExact},
		{d(0, -512, 0), d(top, 1, 60), d(0, 0, 0), api.ErrExact},
		{d(256, 256, 0), d(top, -top, 0), d(0, 0, 0), api.ErrExact},
		{d(1<<30, 0, 0), d(1<<23, 0, 0), d(top, 0, 0), api.OK},
		{d(1<<30, 0, 0), d(-1<<23, 0, 0), d(-top, 0, 0), api.OK},
		{d(1<<30, 0, 0), d(1<<23+1, 0, 0), d(0, 0, 0), api.ErrExact},
		{d(1<<30, 1<<30, 0), d(1<<30, 1<<30, 0), d(0, 0, 0), api.ErrExact},
		{d(top, top, 0), d(top, top, 0), d(0, 0, 0), api.ErrExact},
		{d(-top, top, 0), d(top, -top, 0), d(0, 0, 0), api.ErrExact},
		{d(1<<32, 0, 0), d(1<<32, 0, 0), d(0, 0, 0), api.ErrExact},
	} {
		x, e := dyad.Mul(c.a, c.b)
		want(t, "Mul", x, e, c.want, c.e)
		x, e = dyad.Mul(c.b, c.a)
		want(t, "Mul the other way round", x, e, c.want, c.e)
	}
}

// P5.2: powers of i, modulo 4, of powers below 0, too.
func TestTurnAndConj(t *testing.T) {
	for _, a := range rightOnes() {
		turned := [4]api.Dyad{a, d(-a.Im, a.Re, a.Exp), d(-a.Re, -a.Im, a.Exp), d(a.Im, -a.Re, a.Exp)}
		for k := -9; k <= 9; k++ {
			x, e := dyad.Turn(a, k)
			want(t, "Turn", x, e, turned[(k+12)%4], api.OK)
		}
		for k, rest := range map[int]int{math.MinInt: 0, math.MinInt + 1: 1, math.MaxInt: 3, math.MaxInt - 1: 2} {
			x, e := dyad.Turn(a, k)
			want(t, "Turn far", x, e, turned[rest], api.OK)
		}
		x, e := dyad.Conj(a)
		want(t, "Conj", x, e, d(a.Re, -a.Im, a.Exp), api.OK)
	}
}

// P5.2: squares by hand, with the errors of products: the product of both parts counts, too.
func TestSquare(t *testing.T) {
	for _, c := range []struct {
		a, want api.Dyad
		e       api.Errno
	}{
		{d(0, 0, 0), d(0, 0, 0), api.OK},
		{d(3, -4, 0), d(25, 0, 0), api.OK},
		{d(1, 2, 1), d(5, 0, 2), api.OK},
		{d(-1, 1, 1), d(1, 0, 1), api.OK},
		{d(1, 1, 30), d(1, 0, 59), api.OK},
		{d(1, 0, 30), d(1, 0, 60), api.OK},
		{d(1, 0, 31), d(0, 0, 0), api.ErrExact},
		{d(1, 1, 31), d(0, 0, 0), api.ErrExact},
		{d(0, 1, 60), d(0, 0, 0), api.ErrExact},
		{d(1<<26, 1<<26, 0), d(top, 0, 0), api.OK},
		{d(1<<26, 1<<26+1, 0), d(0, 0, 0), api.ErrExact},
		{d(94906265, 0, 0), d(9007199136250225, 0, 0), api.OK},
		{d(94906266, 0, 0), d(0, 0, 0), api.ErrExact},
		{d(top, -top, 0), d(0, 0, 0), api.ErrExact},
	} {
		x, e := dyad.Square(c.a)
		want(t, "Square", x, e, c.want, c.e)
	}
}

// P5.2: a dyad that is not right is refused, wherever it stands, and ahead of what else is wrong.
func TestWrongOnesAreRefused(t *testing.T) {
	two := map[string]func(a, b api.Dyad) (api.Dyad, api.Errno){"Add": dyad.Add, "Sub": dyad.Sub, "Mul": dyad.Mul}
	one := map[string]func(a api.Dyad) (api.Dyad, api.Errno){
		"Conj": dyad.Conj, "Square": dyad.Square,
		"Turn": func(a api.Dyad) (api.Dyad, api.Errno) { return dyad.Turn(a, 1) },
		"kept": func(a api.Dyad) (api.Dyad, api.Errno) { return dyad.Turn(a, 0) },
	}
	for _, a := range wrongOnes() {
		for name, f := range two {
			for _, b := range []api.Dyad{{}, d(1, 1, 60), d(top, top, 0), a, d(0, 0, 2)} {
				x, e := f(a, b)
				want(t, name, x, e, api.Dyad{}, api.ErrArg)
				x, e = f(b, a)
				want(t, name, x, e, api.Dyad{}, api.ErrArg)
			}
		}
		for name, f := range one {
			x, e := f(a)
			want(t, name, x, e, api.Dyad{}, api.ErrArg)
		}
		if z, e := dyad.To(a); z != 0 || e != api.ErrArg {
			t.Errorf("To %v: %v %d", a, z, e)
		}
		if s, e := dyad.Print(a); s != "" || e != api.ErrArg {
			t.Errorf("Print %v: %q %d", a, s, e)
		}
	}
}
