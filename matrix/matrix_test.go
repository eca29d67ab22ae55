package matrix_test

import (
	"math"
	"math/rand"
	"slices"
	"testing"

	"phasor/api"
	"phasor/matrix"
)

// P7.1: what is right: from 1 to 64 rows, and as many numbers as there are places, whatever they are.
func TestCheck(t *testing.T) {
	chance := rand.New(rand.NewSource(71))
	for n := 1; n <= 64; n++ {
		if e := matrix.Check(odd(chance, n)); e != api.OK {
			t.Errorf("%d rows: %d", n, e)
		}
		for _, count := range []int{0, n - 1, n, n*n - 1, n*n + 1, n * (n + 1)} {
			if count == n*n {
				continue
			}
			if e := matrix.Check(api.Matrix{N: n, E: make([]complex128, count)}); e != api.ErrShape {
				t.Errorf("%d rows, %d numbers: %d", n, count, e)
			}
		}
	}
	for i, m := range wrongs() {
		if e := matrix.Check(m); e != api.ErrShape {
			t.Errorf("%d: %d rows, %d numbers: %d", i, m.N, len(m.E), e)
		}
	}
}

// P7.1, R8: the length of a list counts, not what room it has.
func TestCheckTakesNoRoom(t *testing.T) {
	room := make([]complex128, 4, 9)
	if e := matrix.Check(api.Matrix{N: 3, E: room}); e != api.ErrShape {
		t.Error(e)
	}
	if e := matrix.Check(api.Matrix{N: 2, E: room}); e != api.OK {
		t.Error(e)
	}
}

// P7.1: ones and noughts, no nought with a sign.
func TestIdentity(t *testing.T) {
	for n := 1; n <= 64; n++ {
		m, e := matrix.Identity(n)
		wantMatrix(t, "Identity", m, e, unit(n, 1))
	}
	for _, n := range []int{0, -1, -64, 65, 66, 128, 1 << 32, math.MaxInt, math.MinInt} {
		m, e := matrix.Identity(n)
		wantNone(t, "Identity", m, e, api.ErrShape)
	}
}

// P7.2: rows and columns exchanged, and the other sign of each imaginary part, a nought's and an infinity's, too.
func TestAdjointAndConj(t *testing.T) {
	chance := rand.New(rand.NewSource(72))
	for n := 1; n <= 64; n++ {
		m := odd(chance, n)
		over, beside := unit(n, 0), unit(n, 0)
		for i := range n {
			for j := range n {
				z := entry(m, i, j)
				beside.E[n*i+j] = complex(real(z), math.Copysign(imag(z), -math.Copysign(1, imag(z))))
				over.E[n*j+i] = beside.E[n*i+j]
			}
		}
		a, e := matrix.Adjoint(m)
		wantMatrix(t, "Adjoint", a, e, over)
		c, e := matrix.Conj(m)
		wantMatrix(t, "Conj", c, e, beside)
	}
	m := of(2, 1+2i, complex(3, minus0), 5, complex(minus0, -inf))
	a, e := matrix.Adjoint(m)
	wantMatrix(t, "Adjoint by hand", a, e, of(2, 1-2i, complex(5, minus0), complex(3, 0), complex(minus0, inf)))
	c, e := matrix.Conj(m)
	wantMatrix(t, "Conj by hand", c, e, of(2, 1-2i, complex(3, 0), complex(5, minus0), complex(minus0, inf)))
}

// P7.2: the sum from the first entry on: a sum from nought, or in another order, would be another.
func TestTrace(t *testing.T) {
	chance := rand.New(rand.NewSource(73))
	for n := 1; n <= 64; n++ {
		for _, m := range []api.Matrix{odd(chance, n), tame(chance, n)} {
			var l []complex128
			for k := range n {
				l = append(l, entry(m, k, k))
			}
			z, e := matrix.Trace(m)
			wantNumber(t, "Trace", z, total(l))
			if e != api.OK {
				t.Error(n, e)
			}
		}
	}
	for _, c := range []struct {
		m      api.Matrix
		wanted complex128
	}{
		{of(1, 7i), 7i},
		{of(1, complex(minus0, minus0)), complex(minus0, minus0)},
		{of(2, complex(minus0, minus0), 5, 6, complex(minus0, 0)), complex(minus0, 0)},
		{of(2, 1, 2, 3, 4i), 1 + 4i},
		{of(3, 1, 0, 0, 0, 1<<53, 0, 0, 0, -1<<53), 0},
		{of(3, 1<<53, 0, 0, 0, -1<<53, 0, 0, 0, 1), 1},
		{of(2, complex(inf, 1), 0, 0, complex(-inf, 1)), complex(nan, 2)},
	} {
		z, e := matrix.Trace(c.m)
		wantNumber(t, "Trace by hand", z, c.wanted)
		if e != api.OK {
			t.Error(e)
		}
	}
}

// P7.2 to P7.6: what is not right is refused by every call, whatever else would be wrong, and nothing is answered beside it.
func TestWrongMatrices(t *testing.T) {
	right := unit(2, 1)
	for i, m := range wrongs() {
		for name, call := range map[string]func() (api.Matrix, api.Errno){
			"Mul, first":       func() (api.Matrix, api.Errno) { return matrix.Mul(m, right) },
			"Mul, second":      func() (api.Matrix, api.Errno) { return matrix.Mul(right, m) },
			"Mul, both":        func() (api.Matrix, api.Errno) { return matrix.Mul(m, m) },
			"Kron, first":      func() (api.Matrix, api.Errno) { return matrix.Kron(m, right) },
			"Kron, second":     func() (api.Matrix, api.Errno) { return matrix.Kron(right, m) },
			"Kron, with 64":    func() (api.Matrix, api.Errno) { return matrix.Kron(unit(64, 1), m) },
			"Adjoint":          func() (api.Matrix, api.Errno) { return matrix.Adjoint(m) },
			"Conj":             func() (api.Matrix, api.Errno) { return matrix.Conj(m) },
			"Place, one":       func() (api.Matrix, api.Errno) { return matrix.Place(m, []int{0}, 1) },
			"Place, none":      func() (api.Matrix, api.Errno) { return matrix.Place(m, nil, 0) },
			"Place, too large": func() (api.Matrix, api.Errno) { return matrix.Place(m, []int{0}, 7) },
			"Minor":            func() (api.Matrix, api.Errno) { return matrix.Minor(m, 0, 0) },
			"Adjugate":         func() (api.Matrix, api.Errno) { return matrix.Adjugate(m) },
			"Power, 0":         func() (api.Matrix, api.Errno) { return matrix.Power(m, 0) },
			"Power, 2":         func() (api.Matrix, api.Errno) { return matrix.Power(m, 2) },
		} {
			got, e := call()
			if e != api.ErrShape || got.N != 0 || len(got.E) != 0 {
				t.Errorf("%s of %d: %d rows, error %d", name, i, got.N, e)
			}
		}
		if z, e := matrix.Trace(m); e != api.ErrShape || !sameNumber(z, 0) {
			t.Errorf("Trace of %d: %v, %d", i, z, e)
		}
		if z, e := matrix.Det(m); e != api.ErrShape || !sameNumber(z, 0) {
			t.Errorf("Det of %d: %v, %d", i, z, e)
		}
		for _, v := range [][]complex128{nil, {1}, {1, 1}, m.E} {
			if l, e := matrix.Act(m, v); e != api.ErrShape || len(l) != 0 {
				t.Errorf("Act of %d: %v, %d", i, l, e)
			}
		}
	}
}

// R3: what is handed in is not changed, and an answer is the caller's own: what is done to it is not seen in it, nor in another answer.
func TestAnswersAreNewMemory(t *testing.T) {
	chance := rand.New(rand.NewSource(74))
	a, b, one := tame(chance, 4), tame(chance, 4), tame(chance, 1)
	v, qubits := tame(chance, 2).E, []int{1, 0}
	kept := [][]complex128{slices.Clone(a.E), slices.Clone(b.E), slices.Clone(one.E), slices.Clone(v)}
	for name, call := range map[string]func() []complex128{
		"Identity":        func() []complex128 { m, _ := matrix.Identity(4); return m.E },
		"Mul":             func() []complex128 { m, _ := matrix.Mul(a, b); return m.E },
		"Kron":            func() []complex128 { m, _ := matrix.Kron(a, b); return m.E },
		"Adjoint":         func() []complex128 { m, _ := matrix.Adjoint(a); return m.E },
		"Conj":            func() []complex128 { m, _ := matrix.Conj(a); return m.E },
		"Act":             func() []complex128 { l, _ := matrix.Act(a, v); return l },
		"Place":           func() []complex128 { m, _ := matrix.Place(a, qubits, 2); return m.E },
		"Place, as it is": func() []complex128 { m, _ := matrix.Place(a, []int{0, 1}, 2); return m.E },
		"Minor":           func() []complex128 { m, _ := matrix.Minor(a, 1, 2); return m.E },
		"Adjugate":        func() []complex128 { m, _ := matrix.Adjugate(a); return m.E },
		"Adjugate of one": func() []complex128 { m, _ := matrix.Adjugate(one); return m.E },
		"Power, 0":        func() []complex128 { m, _ := matrix.Power(a, 0); return m.E },
		"Power, 1":        func() []complex128 { m, _ := matrix.Power(a, 1); return m.E },
		"Power of one":    func() []complex128 { m, _ := matrix.Power(one, 1); return m.E },
	} {
		first := call()
		wanted := slices.Clone(first)
		for i := range first {
			first[i] = 99
		}
		if !slices.EqualFunc(call(), wanted, sameNumber) {
			t.Errorf("%s answers otherwise behind a change of its answer", name)
		}
	}
	for i, l := range [][]complex128{a.E, b.E, one.E, v} {
		if !slices.EqualFunc(l, kept[i], sameNumber) {
			t.Errorf("%d was changed", i)
		}
	}
	if !slices.Equal(qubits, []int{1, 0}) {
		t.Error("qubits were changed")
	}
}
