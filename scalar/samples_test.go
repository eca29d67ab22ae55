package scalar_test

import (
	"math"
	"math/rand"
	"testing"
)

const (
	least  = math.SmallestNonzeroFloat64
	normal = 0x1p-1022 // the least normal float
	most   = math.MaxFloat64
)

var (
	minus0 = math.Copysign(0, -1)
	inf    = math.Inf(1)
	nan    = math.NaN()
)

// nans are NaNs of all looks: with and without a sign, quiet and signalling.
func nans() []float64 {
	var l []float64
	for _, b := range []uint64{0x7ff8000000000001, 0x7ff8000000000000, 0xfff8000000000000, 0x7ff0000000000001, 0xfff0000000000001, 0x7fffffffffffffff, math.MaxUint64} {
		l = append(l, math.Float64frombits(b))
	}
	return l
}

// rising are floats of all classes in the order of P2.2, each once.
func rising() []float64 {
	up := []float64{0, least, 2 * least, 3 * least, normal - 2*least, normal - least, normal, normal + least, 2 * normal, 0x1p-537, 0x1p-53, 0.1, 0.125, 0.375, 0.5, 0.75, 1 - 0x1p-53, 1, 1 + 0x1p-52, 1.5, 2, 2.5, 3, 12, 1<<53 - 1, 1 << 53, 1<<53 + 2, 1e21, 0x1p512, 0x1p1023, 0x1.ffffffffffffep1023, most, inf}
	var l []float64
	for i := len(up) - 1; i >= 0; i-- {
		l = append(l, -up[i])
	}
	l[len(l)-1] = minus0
	return append(l, up...)
}

// samples are the floats of rising, NaNs, each power of two with its neighbours, and floats of any bits: the same ones in each run.
func samples() []float64 {
	l := append(rising(), nans()...)
	for e := -1074; e <= 1023; e++ {
		b := math.Float64bits(math.Ldexp(1, e))
		for _, b := range []uint64{b, b - 1, b + 1} {
			l = append(l, math.Float64frombits(b), math.Float64frombits(b|1<<63))
		}
	}
	chance := rand.New(rand.NewSource(2))
	for range 2000 {
		b := chance.Uint64()
		// Of bits that are all free few fractions end early.
		l = append(l, math.Float64frombits(b), math.Float64frombits(b&^(1<<chance.Intn(53)-1)))
	}
	return l
}

func isFinite(x float64) bool { return !math.IsNaN(x) && !math.IsInf(x, 0) }

// same asks the library, not the package under test.
func same(a, b float64) bool {
	return math.Float64bits(a) == math.Float64bits(b) || a != a && b != b
}

func wantFloat(t *testing.T, what string, got, want float64) {
	t.Helper()
	if !same(got, want) {
		t.Errorf("%s: %x (%x), not %x (%x)", what, got, math.Float64bits(got), want, math.Float64bits(want))
	}
}
