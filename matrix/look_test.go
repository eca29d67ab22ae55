package matrix_test

import (
	"math/rand"
	"slices"
	"testing"

	"phasor/api"
	"phasor/gate"
	"phasor/matrix"
)

// wantLooks holds Equal and Same, both ways round, to what is told.
func wantLooks(t *testing.T, what string, a, b api.Matrix, equal, same bool) {
	t.Helper()
	if matrix.Equal(a, b) != equal || matrix.Equal(b, a) != equal || matrix.Same(a, b) != same || matrix.Same(b, a) != same {
		t.Errorf("%s: Equal %v, Same %v", what, matrix.Equal(a, b), matrix.Same(a, b))
	}
}

// P7.5: one entry that is another is enough, wherever it stands; signs of noughts and NaN part the two.
func TestEqualAndSame(t *testing.T) {
	chance := rand.New(rand.NewSource(80))
	for n := 1; n <= 12; n++ {
		m := tame(chance, n)
		wantLooks(t, "itself", m, m, true, true)
		for i := range m.E {
			turned := func(z complex128) api.Matrix {
				l := slices.Clone(m.E)
				l[i] = z
				return api.Matrix{N: n, E: l}
			}
			z := m.E[i]
			wantLooks(t, "another real part", m, turned(complex(real(z)+1, imag(z))), false, false)
			wantLooks(t, "another imaginary part", m, turned(complex(real(z), imag(z)-1)), false, false)
			wantLooks(t, "a nought's sign", turned(0), turned(complex(0, minus0)), true, false)
			wantLooks(t, "NaN", turned(complex(nan, 1)), turned(complex(nan, 1)), false, true)
			wantLooks(t, "infinity", turned(complex(1, -inf)), turned(complex(1, -inf)), true, true)
		}
	}
	full := unit(64, 1)
	wantLooks(t, "64 rows", full, unit(64, 1), true, true)
}

// P7.5: what is not right, or not of one size, is neither.
func TestLooksOfWhatDoesNotFit(t *testing.T) {
	for i, m := range wrongs() {
		for _, other := range []api.Matrix{m, unit(1, 1), unit(2, 1), unit(64, 0), {}} {
			wantLooks(t, "a wrong one", m, other, false, false)
			if matrix.Phase(m, other) != -1 || matrix.Phase(other, m) != -1 {
				t.Errorf("%d: Phase", i)
			}
			if matrix.Commute(m, other) || matrix.Commute(other, m) {
				t.Errorf("%d: Commute", i)
			}
		}
		if matrix.Unitary(m) {
			t.Errorf("%d: Unitary", i)
		}
	}
	for a := 1; a <= 8; a++ {
		for b := 1; b <= 8; b++ {
			if a == b {
				continue
			}
			wantLooks(t, "two sizes", unit(a, 0), unit(b, 0), false, false)
			if matrix.Phase(unit(a, 0), unit(b, 0)) != -1 || matrix.Commute(unit(a, 0), unit(b, 0)) {
				t.Errorf("%d and %d rows", a, b)
			}
		}
	}
}

// P7.5: all gates are unitary, placed wherever; what is not so by one entry is none, and nothing is taken to be near enough.
func TestUnitary(t *testing.T) {
	for _, k := range gate.Kinds() {
		m, _ := gate.Matrix(k)
		big, _ := matrix.Place(m, []int{4, 0, 2}[:gate.Arity(k)], 5)
		if !matrix.Unitary(m) || !matrix.Unitary(big) {
			t.Errorf("%s is not Unitary", gate.Name(k))
		}
		for i := range m.E {
			m.E[i] += 0x1p-20
			if matrix.Unitary(m) {
				t.Errorf("%s is Unitary with entry %d turned", gate.Name(k), i)
			}
			m.E[i] -= 0x1p-20
		}
	}
	for _, c := range []struct {
		m  api.Matrix
		is bool
	}{
		{of(1, 1), true}, {of(1, -1i), true}, {of(1, complex(minus0, 1)), true},
		{of(1, 0), false}, {of(1, 2), false}, {of(1, complex(nan, 0)), false}, {of(1, complex(inf, 0)), false},
		{of(1, 0.6+0.8i), 0.6*0.6+0.8*0.8 == 1},
		{of(2, 1, 1, 0, 1), false}, {of(2, 1, 0, 1, 1), false}, {of(2, 0, 1, 1, 0), true}, {of(2, 1, 0, 0, 0), false},
		{of(2, 1, 0, 0, 1-0x1p-53), false},
		{of(2, 1, 0, 0, complex(nan, 0)), false},
		{of(2, 0.5+0.5i, 0.5-0.5i, 0.5-0.5i, 0.5-0.5i), false},
		{of(2, 0, 2, 0.5, 0), false},
		{unit(64, 1i), true}, {unit(64, 2), false},
	} {
		if matrix.Unitary(c.m) != c.is {
			t.Errorf("%v: not %v", c.m, c.is)
		}
	}
}

// P7.5: Equal to the identity, so the signs of noughts do not count, neither m's nor the product's.
func TestUnitaryTakesNoSigns(t *testing.T) {
	chance := rand.New(rand.NewSource(92))
	sign := func(x float64) float64 {
		if x == 0 && chance.Intn(2) == 0 {
			return minus0
		}
		return x
	}
	parted := 0
	for range 50 {
		for _, k := range gate.Kinds() {
			m, _ := gate.Matrix(k)
			for i, z := range m.E {
				m.E[i] = complex(sign(real(z)), sign(imag(z)))
			}
			if !matrix.Unitary(m) {
				t.Errorf("%s: %v", gate.Name(k), m)
			}
			back, _ := matrix.Adjoint(m)
			if !slices.EqualFunc(product(m, back).E, unit(m.N, 1).E, sameNumber) {
				parted++
			}
		}
	}
	if parted == 0 {
		t.Error("no product has a nought with a sign")
	}
}

// P7.5: the product is m times its Adjoint, in that order: of numbers that are rounded the other order comes to the identity where this does not, or this where the other does not. The numbers beside the diagonal are so small that their squares are nought.
func TestUnitaryTakesRows(t *testing.T) {
	chance := rand.New(rand.NewSource(81))
	isUnit := func(p api.Matrix) bool {
		return p.E[0] == 1 && p.E[1] == 0 && p.E[2] == 0 && p.E[3] == 1
	}
	over := func(m api.Matrix) api.Matrix {
		c := func(z complex128) complex128 { return complex(real(z), -imag(z)) }
		return of(2, c(m.E[0]), c(m.E[2]), c(m.E[1]), c(m.E[3]))
	}
	parted := [2]int{}
	for range 1000 {
		b := complex(chance.NormFloat64()*0x1p-600, chance.NormFloat64()*0x1p-600)
		d := complex(0.6, 0.8)
		m := of(2, 1, b, times(complex(-real(b), imag(b)), d), d)
		for k, m := range []api.Matrix{m, over(m)} {
			is := isUnit(product(m, over(m)))
			if is && !isUnit(product(over(m), m)) {
				parted[k]++
			}
			if matrix.Unitary(m) != is {
				t.Fatalf("%v: %v", m, matrix.Unitary(m))
			}
		}
	}
	if parted[0] == 0 {
		t.Error("no sample parts the two orders")
	}
}

// P7.5: the least power of i that will do, and none where one entry parts by another.
func TestPhase(t *testing.T) {
	chance := rand.New(rand.NewSource(82))
	units := []complex128{1, 1i, -1, -1i}
	for n := 1; n <= 8; n++ {
		b := tame(chance, n)
		for k, u := range units {
			a := api.Matrix{N: n}
			for _, z := range b.E {
				a.E = append(a.E, times(z, u))
			}
			if got := matrix.Phase(a, b); got != k {
				t.Errorf("%d rows turned by %d: %d", n, k, got)
			}
			if got := matrix.Phase(b, a); got != (4-k)%4 {
				t.Errorf("%d rows turned back by %d: %d", n, k, got)
			}
			for i := range a.E {
				kept := a.E[i]
				a.E[i] = 7
				if got := matrix.Phase(a, b); got != -1 && n > 1 {
					t.Errorf("%d rows, entry %d another: %d", n, i, got)
				}
				a.E[i] = kept
			}
		}
	}
	for _, c := range []struct {
		a, b   api.Matrix
		wanted int
	}{
		{of(2, 0, -1i, 1i, 0), of(2, 0, 1, -1, 0), 3},
		{of(2, 0, 1, -1, 0), of(2, 0, -1i, 1i, 0), 1},
		{of(2, -1, 0, 0, -1), unit(2, 1), 2},
		{of(2, -1, 0, 0, 1), unit(2, 1), -1},
		{of(2, 1, 0, 0, 1i), unit(2, 1), -1},
		{of(2, 2, 0, 0, 2), unit(2, 1), -1},
		{of(1, 0), of(1, complex(minus0, minus0)), 0},
		{unit(3, 0), unit(3, 0), 0},
		{unit(3, 0), unit(3, 1), -1},
		{of(1, complex(nan, 0)), of(1, complex(nan, 0)), -1},
		{of(2, 1, 0, 0, complex(0, nan)), of(2, 1, 0, 0, complex(0, nan)), -1},
		{of(1, complex(-inf, inf)), of(1, complex(inf, inf)), 1},
		{unit(64, -1i), unit(64, 1), 3},
	} {
		if got := matrix.Phase(c.a, c.b); got != c.wanted {
			t.Errorf("%v, %v: %d, not %d", c.a.E[:1], c.b.E[:1], got, c.wanted)
		}
	}
}

// P7.6: whether both products are Equal: by the products themselves, of gates and of floats that are rounded.
func TestCommute(t *testing.T) {
	chance := rand.New(rand.NewSource(83))
	look := func(a, b api.Matrix) {
		p, q := product(a, b), product(b, a)
		is := slices.EqualFunc(p.E, q.E, func(x, y complex128) bool { return real(x) == real(y) && imag(x) == imag(y) })
		if matrix.Commute(a, b) != is {
			t.Errorf("%d rows: Commute is %v", a.N, !is)
		}
	}
	var gates []api.Matrix
	for _, k := range gate.Kinds() {
		m, _ := gate.Matrix(k)
		m, _ = matrix.Place(m, []int{1, 2, 0}[:gate.Arity(k)], 3)
		gates = append(gates, m)
	}
	for _, a := range gates {
		for _, b := range gates {
			look(a, b)
		}
	}
	for n := 1; n <= 8; n++ {
		for range 20 {
			look(odd(chance, n), odd(chance, n))
			look(tame(chance, n), tame(chance, n))
			m := tame(chance, n)
			look(m, m)
			look(m, unit(n, 0.5i))
		}
	}
	for _, c := range []struct {
		a, b api.Matrix
		is   bool
	}{
		{of(2, 1, 2i, 3, 4), of(2, 2, 0, 0, 2), true},
		{of(2, 1, 2i, 3, 4), of(2, 0, 1, 1, 0), false},
		{of(2, 1, 0, 0, -1), of(2, 1, 0, 0, 1i), true},
		{of(2, 0, 1, 0, 0), of(2, 0, 0, 1, 0), false},
		{of(1, complex(nan, 0)), of(1, 1), false},
		{of(1, complex(0.1, 0.7)), of(1, complex(0.3, 0.9)), true},
	} {
		if matrix.Commute(c.a, c.b) != c.is || matrix.Commute(c.b, c.a) != c.is {
			t.Errorf("%v, %v: not %v", c.a, c.b, c.is)
		}
	}
}
