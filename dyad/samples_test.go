package dyad_test

import (
	"math"
	"math/big"
	"math/rand"
	"testing"

	"phasor/api"
)

// top is the size of the greatest part.
const top = 1 << 53

var (
	minus0 = math.Copysign(0, -1)
	inf    = math.Inf(1)
	nan    = math.NaN()
)

func d(re, im int64, exp int) api.Dyad {
	return api.Dyad{Re: re, Im: im, Exp: exp}
}

// rightOnes are right dyads, the edges of parts and powers in all pairs among them.
func rightOnes() []api.Dyad {
	parts := []int64{0, 1, 2, 3, 1<<26 - 1, 1 << 26, 1<<31 + 1, top - 2, top - 1, top}
	var l []api.Dyad
	for _, exp := range []int{0, 1, 2, 7, 30, 31, 53, 59, 60} {
		for i, re := range parts {
			for j, im := range parts {
				if exp > 0 && re%2 == 0 && im%2 == 0 {
					continue
				}
				if i%2 == 1 {
					re = -re
				}
				if j%3 == 1 {
					im = -im
				}
				l = append(l, d(re, im, exp), d(-re, im, exp))
			}
		}
	}
	return l
}

// wrongOnes are not right: each of them by one of the things that a right one must be.
func wrongOnes() []api.Dyad {
	return []api.Dyad{
		d(top+1, 0, 0), d(-top-1, 0, 0), d(0, top+1, 0), d(0, -top-1, 0), d(top+1, 1, 3), d(1, -top-1, 60),
		d(math.MaxInt64, 0, 0), d(math.MinInt64, 0, 0), d(0, math.MaxInt64, 0), d(0, math.MinInt64, 0), d(math.MinInt64, 1, 2), d(math.MinInt64, math.MinInt64, 0),
		d(1, 0, -1), d(0, 0, -1), d(1, 1, math.MinInt), d(1, 0, 61), d(1, 1, 64), d(1, 0, math.MaxInt),
		d(0, 0, 1), d(0, 0, 60), d(2, 4, 2), d(2, 0, 1), d(0, -2, 60), d(-2, -2, 1), d(top, top, 1), d(-top, 0, 60),
	}
}

// anyRight is a right dyad whose parts have any number of bits up to those given.
func anyRight(chance *rand.Rand, bits int) api.Dyad {
	part := func() int64 {
		x := chance.Int63n(1<<chance.Intn(bits+1) + 1)
		if chance.Intn(2) == 0 {
			return -x
		}
		return x
	}
	exp := 0
	if chance.Intn(3) > 0 {
		exp = chance.Intn(61)
	}
	return settle(d(part(), part(), exp))
}

// manyRight are the edges and dyads of any size, the same ones of the same seed.
func manyRight(seed int64) []api.Dyad {
	chance := rand.New(rand.NewSource(seed))
	l := rightOnes()
	for range 5000 {
		l = append(l, anyRight(chance, 53))
	}
	return l
}

// settle halves one by one.
func settle(x api.Dyad) api.Dyad {
	for x.Exp > 0 && x.Re%2 == 0 && x.Im%2 == 0 {
		x = d(x.Re/2, x.Im/2, x.Exp-1)
	}
	return x
}

// exact is a complex number of two fractions of any size: what dyads are held against.
type exact struct{ re, im *big.Rat }

func valueOf(x api.Dyad) exact {
	below := new(big.Int).Lsh(big.NewInt(1), uint(x.Exp))
	return exact{new(big.Rat).SetFrac(big.NewInt(x.Re), below), new(big.Rat).SetFrac(big.NewInt(x.Im), below)}
}

// dyad finds the right dyad by trying every power, the least first.
func (x exact) dyad() (api.Dyad, api.Errno) {
	for exp := range 61 {
		scale := new(big.Rat).SetInt(new(big.Int).Lsh(big.NewInt(1), uint(exp)))
		re, im := new(big.Rat).Mul(x.re, scale), new(big.Rat).Mul(x.im, scale)
		if !re.IsInt() || !im.IsInt() {
			continue
		}
		if !re.Num().IsInt64() || !im.Num().IsInt64() {
			break
		}
		a, b := re.Num().Int64(), im.Num().Int64()
		if a < -top || a > top || b < -top || b > top {
			break
		}
		return d(a, b, exp), api.OK
	}
	return api.Dyad{}, api.ErrExact
}

func want(t *testing.T, what string, got api.Dyad, e api.Errno, wanted api.Dyad, errno api.Errno) {
	t.Helper()
	if got != wanted || e != errno {
		t.Errorf("%s: %v %d, not %v %d", what, got, e, wanted, errno)
	}
}
