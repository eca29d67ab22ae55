package scalar_test

import (
	"cmp"
	"math"
	"slices"
	"testing"

	"phasor/scalar"
)

// P2.2: in the order of the document each is alike to itself alone; all NaNs are alike, and above all else.
func TestCompareAndSame(t *testing.T) {
	l := rising()
	for i, a := range l {
		for j, b := range l {
			if got := scalar.Compare(a, b); got != cmp.Compare(i, j) {
				t.Errorf("Compare %x %x: %d", a, b, got)
			}
			if got := scalar.Same(a, b); got != (i == j) {
				t.Errorf("Same %x %x: %v", a, b, got)
			}
		}
		for _, n := range nans() {
			if scalar.Compare(a, n) != -1 || scalar.Compare(n, a) != 1 || scalar.Same(a, n) || scalar.Same(n, a) {
				t.Errorf("%x and a NaN", a)
			}
		}
	}
	for _, a := range nans() {
		for _, b := range nans() {
			if scalar.Compare(a, b) != 0 || !scalar.Same(a, b) {
				t.Errorf("NaNs %x %x", math.Float64bits(a), math.Float64bits(b))
			}
		}
	}
}

// P2.9: Compare is an order: sorted by it, each is at most the next ones; and it holds with what Go's < says.
func TestCompareIsAnOrder(t *testing.T) {
	l := samples()
	slices.SortFunc(l, scalar.Compare)
	for i, a := range l[:len(l)-1] {
		for _, b := range l[i+1 : min(len(l), i+200)] {
			if scalar.Compare(a, b) > 0 || scalar.Compare(b, a) != -scalar.Compare(a, b) || a > b {
				t.Fatalf("%x %x", a, b)
			}
			if (scalar.Compare(a, b) == 0) != scalar.Same(a, b) {
				t.Fatalf("%x %x: alike, or not", a, b)
			}
		}
	}
}

// P2.3: neighbours over the edges of the classes, there and back.
func TestNext(t *testing.T) {
	for _, c := range [][2]float64{
		{-inf, -most},
		{-most, -0x1.ffffffffffffep1023},
		{-2, -2 + 0x1p-52},
		{-1, -1 + 0x1p-53},
		{-normal, -normal + least},
		{-2 * least, -least},
		{-least, minus0},
		{minus0, 0},
		{0, least},
		{least, 2 * least},
		{normal - least, normal},
		{normal, normal + least},
		{1 - 0x1p-53, 1},
		{1, 1 + 0x1p-52},
		{0x1.ffffffffffffep1023, most},
		{most, inf},
	} {
		wantFloat(t, "up from "+scalar.Print(c[0]), scalar.Next(c[0], true), c[1])
		wantFloat(t, "down from "+scalar.Print(c[1]), scalar.Next(c[1], false), c[0])
	}
}

// P2.3: at the ends there is no further one.
func TestNextAtTheEnds(t *testing.T) {
	wantFloat(t, "above +Inf", scalar.Next(inf, true), inf)
	wantFloat(t, "below -Inf", scalar.Next(-inf, false), -inf)
	for _, x := range nans() {
		wantFloat(t, "above a NaN", scalar.Next(x, true), nan)
		wantFloat(t, "below a NaN", scalar.Next(x, false), nan)
	}
}

// P2.3, P2.9: there is no float between x and its neighbour. Noughts aside it is the library's.
func TestNextHasNoneBetween(t *testing.T) {
	for _, x := range samples() {
		up, down := scalar.Next(x, true), scalar.Next(x, false)
		if x == 0 || x != x {
			continue
		}
		if want := math.Nextafter(x, inf); up != want || up == 0 && !math.Signbit(up) {
			t.Errorf("up from %x: %x", x, up)
		}
		if want := math.Nextafter(x, -inf); down != want || down == 0 && math.Signbit(down) {
			t.Errorf("down from %x: %x", x, down)
		}
		if x < inf && scalar.Compare(x, up) != -1 || x > -inf && scalar.Compare(down, x) != -1 {
			t.Errorf("%x: %x %x", x, down, up)
		}
	}
}
