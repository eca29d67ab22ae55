package plane_test

import (
	"math/rand"
	"slices"
	"testing"

	"phasor/api"
	"phasor/plane"
)

// P3.7: only 1, 2 and 4 numbers are taken.
func TestFourierAndBackRefuse(t *testing.T) {
	for _, f := range []func([]complex128) ([]complex128, api.Errno){plane.Fourier, plane.Back} {
		for n := range 40 {
			l, e := f(make([]complex128, n))
			if n == 1 || n == 2 || n == 4 {
				if len(l) != n || e != api.OK {
					t.Errorf("%d: %x %d", n, l, e)
				}
			} else if len(l) != 0 || e != api.ErrPlane {
				t.Errorf("%d: %x %d", n, l, e)
			}
		}
		if l, e := f(nil); len(l) != 0 || e != api.ErrPlane {
			t.Errorf("nil: %x %d", l, e)
		}
	}
}

// P3.7: transforms by hand.
func TestFourierAndBack(t *testing.T) {
	for _, c := range []struct{ l, fourier, back []complex128 }{
		{[]complex128{2 - 3i}, []complex128{2 - 3i}, []complex128{2 - 3i}},
		{[]complex128{complex(minus0, nan)}, []complex128{complex(minus0, nan)}, []complex128{complex(minus0, nan)}},
		{[]complex128{1, 3i}, []complex128{1 + 3i, 1 - 3i}, []complex128{0.5 + 1.5i, 0.5 - 1.5i}},
		{[]complex128{1, 0, 0, 0}, []complex128{1, 1, 1, 1}, []complex128{0.25, 0.25, 0.25, 0.25}},
		{[]complex128{0, 4, 0, 0}, []complex128{4, 4i, -4, -4i}, []complex128{1, -1i, -1, 1i}},
		{[]complex128{0, 0, 4, 0}, []complex128{4, -4, 4, -4}, []complex128{1, -1, 1, -1}},
		{[]complex128{0, 0, 0, 4}, []complex128{4, -4i, -4, 4i}, []complex128{1, 1i, -1, -1i}},
		{[]complex128{1, 2, 3, 4}, []complex128{10, -2 - 2i, -2, -2 + 2i}, []complex128{2.5, -0.5 + 0.5i, -0.5, -0.5 - 0.5i}},
		{[]complex128{complex(least, 0), complex(0, 0)}, []complex128{complex(least, 0), complex(least, 0)}, []complex128{0, 0}},
	} {
		before := slices.Clone(c.l)
		f, e := plane.Fourier(c.l)
		wantList(t, "Fourier", f, c.fourier, e)
		b, e := plane.Back(c.l)
		wantList(t, "Back", b, c.back, e)
		if !slices.EqualFunc(before, c.l, same) {
			t.Error("the list was changed")
		}
	}
}

func wantList(t *testing.T, what string, got, want []complex128, e api.Errno) {
	t.Helper()
	equal := func(a, b complex128) bool { return same(plus(a), plus(b)) }
	if e != api.OK || !slices.EqualFunc(got, want, equal) {
		t.Errorf("%s: %x %d, not %x", what, got, e, want)
	}
}

// P3.7: of any parts each number is told to the bit, the signs of noughts, too.
func TestFourierAndBackByTheirFormulas(t *testing.T) {
	chance := rand.New(rand.NewSource(37))
	all := numbers()
	for range 3000 {
		for _, n := range []int{1, 2, 4} {
			l := make([]complex128, n)
			for k := range l {
				l[k] = all[chance.Intn(len(all))]
			}
			f, e := plane.Fourier(l)
			b, err := plane.Back(l)
			if e != api.OK || err != api.OK || len(f) != n || len(b) != n {
				t.Fatal(n, e, err)
			}
			for j := range n {
				want(t, "Fourier", f[j], wave(l, j))
				half, _ := plane.Half(wave(l, -j), n/2)
				want(t, "Back", b[j], half)
			}
		}
	}
}

// wave is the sum of the numbers, turned by quarters one by one.
func wave(l []complex128, j int) complex128 {
	turned := slices.Clone(l)
	for k := range turned {
		for range ((j*k*(4/len(l)))%4 + 4) % 4 {
			turned[k] = complex(flip(imag(turned[k])), real(turned[k]))
		}
	}
	return leftSum(turned)
}

// R3: what is answered is new memory.
func TestAnswersAreNewMemory(t *testing.T) {
	l := []complex128{7}
	for _, f := range []func([]complex128) ([]complex128, api.Errno){plane.Fourier, plane.Back} {
		got, _ := f(l)
		got[0] = 1
		again, _ := f(l)
		if l[0] != 7 || again[0] != 7 {
			t.Error("the answer is the argument's memory")
		}
	}
}
