package scalar_test

import (
	"math"
	"testing"

	"phasor/api"
	"phasor/scalar"
)

// FuzzFollows is P2.9, of any two floats.
func FuzzFollows(f *testing.F) {
	for _, x := range rising() {
		f.Add(math.Float64bits(x), math.Float64bits(-x), 3)
		f.Add(math.Float64bits(x), uint64(0x7ff0000000000001), -1)
	}
	f.Fuzz(func(t *testing.T, p, q uint64, k int) {
		a, b := math.Float64frombits(p), math.Float64frombits(q)
		followsOfOne(t, a, k)
		if scalar.Compare(a, b) != -scalar.Compare(b, a) || (scalar.Compare(a, b) == 0) != same(a, b) || a < b && scalar.Compare(a, b) != -1 {
			t.Errorf("%x %x: %d", a, b, scalar.Compare(a, b))
		}
		if scalar.Compare(a, b) == -1 && scalar.Compare(scalar.Next(a, true), b) == 1 {
			t.Errorf("%x is between", b)
		}
		wantFloat(t, "the order of a list", scalar.Whole([]float64{a, b, 1}), scalar.Whole([]float64{1, b, a}))
		if x, want := scalar.Whole([]float64{a, b, -a}), scalar.Plus(b); isFinite(a) && !same(scalar.Plus(x), want) {
			t.Errorf("%x %x: %x", a, b, x)
		}
		// Of two floats the exact sum, rounded once, is what Go's + is.
		if x := scalar.Whole([]float64{a, b}); !same(x, a+b) {
			t.Errorf("%x %x: %x", a, b, x)
		}
	})
}

func followsOfOne(t *testing.T, x float64, k int) {
	t.Helper()
	if m, e, err := scalar.Split(x); err == api.OK {
		wantFloat(t, "Join", scalar.Join(m, e), scalar.Plus(x))
		if scalar.Exact(x, k) != (m == 0 || k >= -e) {
			t.Errorf("Exact %x, %d", x, k)
		}
	}
	y, e := scalar.Parse(scalar.Print(x))
	wantFloat(t, "Parse", y, x)
	if e != api.OK {
		t.Error("Parse:", e)
	}
	if s, e := scalar.Fixed(x, k); (e == api.OK) != (0 <= k && k <= api.MaxDigits) || (s == "") != (e != api.OK) {
		t.Errorf("Fixed %x, %d: %s %d", x, k, s, e)
	}
}
