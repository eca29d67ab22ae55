package scalar_test

import (
	"math"
	"math/big"
	"math/rand"
	"testing"

	"phasor/api"
	"phasor/scalar"
)

// P2.4: Split by hand.
func TestSplit(t *testing.T) {
	for _, c := range []struct {
		x float64
		m int64
		e int
	}{
		{0, 0, 0},
		{minus0, 0, 0},
		{1, 1, 0},
		{-1, -1, 0},
		{12, 3, 2},
		{-0.75, -3, -2},
		{least, 1, -1074},
		{-least, -1, -1074},
		{2 * least, 1, -1073},
		{3 * least, 3, -1074},
		{normal - least, 1<<52 - 1, -1074},
		{normal, 1, -1022},
		{normal + least, 1<<52 + 1, -1074},
		{2*normal + 2*least, 1<<52 + 1, -1073},
		{1<<53 - 1, 1<<53 - 1, 0},
		{1 << 53, 1, 53},
		{0x1p1023, 1, 1023},
		{most, 1<<53 - 1, 971},
		{-most, -(1<<53 - 1), 971},
	} {
		if m, e, err := scalar.Split(c.x); m != c.m || e != c.e || err != api.OK {
			t.Errorf("%x: %d %d %d", c.x, m, e, err)
		}
	}
	for _, x := range append(nans(), inf, -inf) {
		if m, e, err := scalar.Split(x); m != 0 || e != 0 || err != api.ErrFloat {
			t.Errorf("%x: %d %d %d", x, m, e, err)
		}
	}
}

// P2.4, P2.9: m is odd, and Join puts x together again, but for the sign of a nought.
func TestSplitAndJoin(t *testing.T) {
	for _, x := range samples() {
		m, e, err := scalar.Split(x)
		if !isFinite(x) {
			continue
		}
		if err != api.OK || x != 0 && m%2 == 0 {
			t.Errorf("%x: %d %d %d", x, m, e, err)
		}
		want := x
		if x == 0 {
			want = 0
		}
		wantFloat(t, "Join of Split", scalar.Join(m, e), want)
	}
}

// P2.4: Join by hand: ties, what is too great and what is too small, and powers as far off as there are.
func TestJoin(t *testing.T) {
	for _, c := range []struct {
		m    int64
		e    int
		want float64
	}{
		{0, 0, 0}, {0, 5000, 0}, {0, math.MaxInt, 0}, {0, math.MinInt, 0},
		{1, 0, 1}, {-1, 0, -1}, {3, 2, 12}, {-3, -2, -0.75},
		{1<<53 - 1, 0, 1<<53 - 1},
		{1<<53 + 1, 0, 1 << 53}, {1<<53 + 2, 0, 1<<53 + 2}, {1<<53 + 3, 0, 1<<53 + 4}, {-(1<<53 + 1), 0, -1 << 53},
		{1<<54 + 3, 0, 1<<54 + 4}, {1<<54 + 2, 0, 1 << 54}, {1<<54 + 6, 0, 1<<54 + 8}, {1<<54 + 1, 0, 1 << 54},
		{1<<54 - 1, 0, 1 << 54},
		{math.MaxInt64, 0, 0x1p63}, {math.MinInt64, 0, -0x1p63}, {math.MinInt64, -63, -1}, {math.MinInt64 + 1, 0, -0x1p63},
		{1, -1074, least}, {1, -1075, 0}, {-1, -1075, minus0}, {3, -1075, 2 * least}, {5, -1075, 2 * least}, {3, -1076, least}, {-3, -1076, -least}, {2, -1076, 0}, {1, -1076, 0},
		{1<<53 - 1, -1075, normal}, {1<<53 - 3, -1075, normal - 2*least}, {1<<54 - 1, -1076, normal},
		{1<<62 + 1, -1137, least}, {1 << 62, -1137, 0}, {math.MinInt64, -1138, minus0}, {math.MinInt64, -1137, -least}, {math.MinInt64, -1139, minus0}, {math.MaxInt64, -1137, least}, {math.MaxInt64, -1138, 0}, {math.MaxInt64, -1139, 0}, {math.MinInt64, -1136, -2 * least},
		{1, -1138, 0}, {1, -1139, 0}, {-5, -1140, minus0},
		{1, 1023, 0x1p1023}, {1, 1024, inf}, {-1, 1024, -inf}, {1<<53 - 1, 971, most}, {1<<53 - 1, 972, inf},
		{1<<54 - 1, 970, inf}, {1<<54 - 3, 970, 0x1.ffffffffffffep1023}, {1<<55 - 3, 969, most}, {-(1<<54 - 1), 970, -inf},
		{math.MaxInt64, 960, 0x1p1023}, {math.MaxInt64, 961, inf}, {math.MinInt64, 960, -0x1p1023}, {math.MinInt64, 961, -inf},
		{1, 1100, inf}, {1, 1101, inf}, {1, 1102, inf}, {1, 2048, inf}, {1, 4096, inf}, {-1, 9999, -inf},
		{1, math.MaxInt, inf}, {-1, math.MaxInt, -inf}, {math.MaxInt64, math.MaxInt, inf}, {math.MinInt64, math.MaxInt, -inf},
		{1, math.MinInt, 0}, {-1, math.MinInt, minus0}, {math.MaxInt64, math.MinInt, 0}, {math.MinInt64, math.MinInt, minus0},
	} {
		if got := scalar.Join(c.m, c.e); !same(got, c.want) {
			t.Errorf("%d * 2^%d: %x, not %x", c.m, c.e, got, c.want)
		}
	}
}

// P2.4: Join is rounded as big numbers are.
func TestJoinAgainstBigNumbers(t *testing.T) {
	chance := rand.New(rand.NewSource(4))
	for e := -1210; e <= 1110; e++ {
		for range 20 {
			m := int64(chance.Uint64()) >> chance.Intn(64)
			m &^= 1<<chance.Intn(63) - 1
			if m == 0 {
				continue
			}
			if got, want := scalar.Join(m, e), rounded(power(m, e), m < 0); !same(got, want) {
				t.Fatalf("%d * 2^%d: %x, not %x", m, e, got, want)
			}
		}
	}
}

// power is m * 2^e as a big number.
func power(m int64, e int) *big.Rat {
	two := new(big.Int).Lsh(big.NewInt(1), uint(max(e, -e)))
	if e < 0 {
		return new(big.Rat).SetFrac(big.NewInt(m), two)
	}
	return new(big.Rat).SetInt(two.Mul(two, big.NewInt(m)))
}

// rounded is the float next to a big number; a nought has the sign that is told.
func rounded(r *big.Rat, signed bool) float64 {
	x, _ := r.Float64()
	if x == 0 && signed {
		return minus0
	}
	return x
}

// P2.5: halves, and whether they are exact.
func TestHalf(t *testing.T) {
	for _, c := range []struct {
		x, half float64
		exact   bool
	}{
		{0, 0, true}, {minus0, minus0, true}, {1, 0.5, true}, {-3, -1.5, true},
		{inf, inf, true}, {-inf, -inf, true}, {nan, nan, true}, {most, most / 2, true},
		{least, 0, false}, {-least, minus0, false}, {2 * least, least, true}, {3 * least, 2 * least, false}, {-3 * least, -2 * least, false}, {5 * least, 2 * least, false}, {7 * least, 4 * least, false},
		{normal, normal / 2, true}, {normal + least, normal / 2, false}, {2 * normal, normal, true}, {2*normal - 2*least, normal - least, true}, {2*normal - least, normal, false}, {2*normal + 2*least, normal + least, true},
	} {
		half, exact := scalar.Half(c.x)
		wantFloat(t, "Half of "+scalar.Print(c.x), half, c.half)
		if exact != c.exact {
			t.Errorf("Half of %x: %v", c.x, exact)
		}
	}
	for _, x := range nans() {
		if half, exact := scalar.Half(x); half == half || !exact {
			t.Error("a NaN", half, exact)
		}
	}
}

// P2.5: a half is exact but of subnormal floats, and the least normal ones, that are odd.
func TestHalfOfAll(t *testing.T) {
	for _, x := range samples() {
		half, exact := scalar.Half(x)
		wantFloat(t, "half", half, x*0.5)
		odd := math.Abs(x) < 2*normal && math.Float64bits(x)&1 == 1
		if exact == odd {
			t.Errorf("%x: %v", x, exact)
		}
	}
}

// P2.5: Exact by hand, at all k.
func TestExact(t *testing.T) {
	for _, c := range []struct {
		x    float64
		k    int
		want bool
	}{
		{0.375, 3, true}, {0.375, 2, false}, {0.375, 4, true}, {0.375, math.MaxInt, true}, {0.375, math.MinInt, false},
		{-0.375, 3, true}, {-0.375, 2, false},
		{0, 0, true}, {0, -5, true}, {0, math.MinInt, true}, {0, math.MaxInt, true}, {minus0, -5, true}, {minus0, math.MinInt, true},
		{1, 0, true}, {1, -1, false}, {1, 1, true}, {12, -2, true}, {12, -3, false},
		{least, 1074, true}, {least, 1073, false}, {3 * least, 1074, true}, {3 * least, 1073, false}, {2 * least, 1073, true},
		{normal, 1022, true}, {normal, 1021, false},
		{0x1p1023, -1023, true}, {0x1p1023, -1024, false}, {most, -971, true}, {most, -972, false}, {most, math.MinInt, false},
		{inf, 0, false}, {-inf, 0, false}, {inf, math.MaxInt, false}, {nan, 0, false}, {nan, math.MaxInt, false}, {inf, math.MinInt, false},
	} {
		if got := scalar.Exact(c.x, c.k); got != c.want {
			t.Errorf("%x, %d: %v", c.x, c.k, got)
		}
	}
}

// P2.5: Exact against what the library scales.
func TestExactAgainstScaling(t *testing.T) {
	for _, x := range samples() {
		for _, k := range []int{-60, -1, 0, 1, 24, 60} {
			scaled := math.Ldexp(x, k)
			if math.Abs(x) < 0x1p-900 || math.Abs(x) > 0x1p900 {
				continue
			}
			if got, want := scalar.Exact(x, k), isFinite(x) && scaled == math.Floor(scaled); got != want {
				t.Errorf("%x, %d: %v", x, k, got)
			}
		}
	}
}

// P2.5: Plus takes the sign from a nought, and nothing from all else.
func TestPlus(t *testing.T) {
	wantFloat(t, "of -0", scalar.Plus(minus0), 0)
	for _, x := range samples() {
		if !same(x, minus0) {
			wantFloat(t, "Plus", scalar.Plus(x), x)
		}
	}
}
