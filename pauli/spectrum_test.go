package pauli_test

import (
	"math"
	"math/rand"
	"slices"
	"testing"

	"phasor/api"
	"phasor/pauli"
)

// wantMatrix compares to the bit, and takes an error to be wrong.
func wantMatrix(t *testing.T, what string, got api.Matrix, e api.Errno, wanted api.Matrix) {
	t.Helper()
	if got.N != wanted.N {
		t.Errorf("%s: %d rows, not %d", what, got.N, wanted.N)
	}
	wantRow(t, what, got.E, e, wanted.E...)
}

// P13.6: by hand.
func TestSpectrumByHand(t *testing.T) {
	for _, c := range []struct {
		m, wanted []complex128
	}{
		{[]complex128{3 - 4i}, []complex128{3 - 4i}},
		{[]complex128{1, 0, 0, 1}, []complex128{1, 0, 0, 0}},
		{[]complex128{0, 1, 1, 0}, []complex128{0, 1, 0, 0}},
		{[]complex128{1, 2, 0, 0}, []complex128{0.5, 1, 0.5, 1i}},
		{[]complex128{1, 2, 3, 4}, []complex128{2.5, 2.5, -1.5, -0.5i}},
		{[]complex128{complex(minus0, minus0)}, []complex128{0}},
		{[]complex128{-tiny, 0, 0, -tiny}, []complex128{-tiny, 0, 0, 0}},
		{[]complex128{-tiny, 0, 0, 0}, []complex128{complex(minus0, 0), 0, complex(minus0, 0), 0}},
		{[]complex128{complex(inf, 0), 1, 0, complex(inf, 0)}, []complex128{complex(inf, 0), 0.5, complex(nan, 0), 0.5i}},
		{[]complex128{1 << 53, 0, 0, 1}, []complex128{1 << 52, 0, 1<<52 - 0.5, 0}},
	} {
		n := int(math.Sqrt(float64(len(c.m))))
		l, e := pauli.Spectrum(api.Matrix{N: n, E: c.m})
		wantRow(t, "Spectrum", l, e, c.wanted...)
	}
}

// P13.6: each string of up to three qubits has itself alone in its matrix, and its matrix is composed of it alone; a phase comes as a factor.
func TestSpectrumOfStrings(t *testing.T) {
	for n := range 4 {
		for _, p := range all(n) {
			l, e := pauli.Spectrum(stringMatrix(p))
			alone := make([]complex128, 1<<(2*n))
			at := int(p.X) + int(p.Z)<<n
			alone[at] = turned(1, p.Phase)
			if e != api.OK || !slices.Equal(l, alone) {
				t.Error("Spectrum", p, l, e)
			}
			m, e := pauli.Compose(alone)
			if e != api.OK || !equalMatrix(m, stringMatrix(p)) {
				t.Error("Compose", p, m, e)
			}
		}
	}
}

// P13.6: to the bit, of floats of all kinds.
func TestSpectrumAndCompose(t *testing.T) {
	chance := rand.New(rand.NewSource(1341))
	for n := range 4 {
		for range 60 {
			for _, e := range [][]complex128{odd(chance, 1<<(2*n)), tame(chance, 1<<(2*n)), grid(chance, 1<<(2*n)), small(chance, 1<<(2*n))} {
				m := api.Matrix{N: 1 << n, E: e}
				l, err := pauli.Spectrum(m)
				wantRow(t, "Spectrum", l, err, slowSpectrum(m)...)
				got, err := pauli.Compose(e)
				wantMatrix(t, "Compose", got, err, slowCompose(e))
			}
		}
	}
}

// small is a row of the least floats, whose halves are rounded.
func small(chance *rand.Rand, n int) []complex128 {
	return drawn(n, func() float64 { return tiny * float64(chance.Intn(9)-4) })
}

// P13.6: by hand: products of noughts are added, too.
func TestComposeByHand(t *testing.T) {
	for _, c := range []struct {
		l, wanted []complex128
	}{
		{[]complex128{3 - 4i}, []complex128{3 - 4i}},
		{[]complex128{0.5, 1, 0.5, 1i}, []complex128{1, 2, 0, 0}},
		{[]complex128{1, 2, 3, 4}, []complex128{4, 2 - 4i, 2 + 4i, -2}},
		{[]complex128{0, 1i, 0, 0}, []complex128{0, 1i, 1i, 0}},
		{[]complex128{complex(minus0, minus0)}, []complex128{complex(0, minus0)}},
		{[]complex128{complex(inf, 0), 0, 0, 0}, []complex128{complex(inf, nan), complex(nan, nan), complex(nan, nan), complex(inf, nan)}},
		{[]complex128{1, 0, 1 << 53, 0}, []complex128{1 << 53, 0, 0, 1 - 1<<53}},
	} {
		m, e := pauli.Compose(c.l)
		n := int(math.Sqrt(float64(len(c.l))))
		wantMatrix(t, "Compose", m, e, api.Matrix{N: n, E: c.wanted})
	}
}

// P13.6: matrices that are not right, and those of other numbers of rows.
func TestSpectrumRefuses(t *testing.T) {
	wrong := []api.Matrix{
		{}, {E: []complex128{1}}, {N: -1, E: []complex128{1}}, {N: -2, E: make([]complex128, 4)}, {N: 1}, {N: 1, E: make([]complex128, 2)},
		{N: 2, E: make([]complex128, 3)}, {N: 2, E: make([]complex128, 5)}, {N: 2, E: make([]complex128, 3, 4)}, {N: 4, E: make([]complex128, 15)}, {N: 8, E: make([]complex128, 65)},
		{N: 1 << 32}, {N: least}, {N: least, E: []complex128{1}}, {N: great, E: []complex128{1}}, {N: 128, E: make([]complex128, 128*128)},
	}
	for n := 1; n <= 65; n++ {
		if n != 1 && n != 2 && n != 4 && n != 8 {
			wrong = append(wrong, api.Matrix{N: n, E: make([]complex128, n*n)})
		}
	}
	for _, m := range wrong {
		l, e := pauli.Spectrum(m)
		wantNoRow(t, "Spectrum", l, e, api.ErrPauli)
	}
	for _, n := range []int{1, 2, 4, 8} {
		if l, e := pauli.Spectrum(api.Matrix{N: n, E: make([]complex128, n*n, 100)}); e != api.OK || len(l) != n*n {
			t.Error(n, len(l), e)
		}
	}
}

// P13.6: numbers that are not as many as there are strings.
func TestComposeRefuses(t *testing.T) {
	room := make([]complex128, 70000)
	for size := range 5000 {
		wantCompose(t, room[:size])
	}
	for _, size := range []int{1 << 14, 1 << 16, 65535, 65537, 70000} {
		wantCompose(t, room[:size])
	}
	m, e := pauli.Compose(nil)
	if e != api.ErrPauli || m.N != 0 || len(m.E) != 0 {
		t.Error(m, e)
	}
}

func wantCompose(t *testing.T, l []complex128) {
	t.Helper()
	rows := map[int]int{1: 1, 4: 2, 16: 4, 64: 8}[len(l)]
	wanted := api.OK
	if rows == 0 {
		wanted = api.ErrPauli
	}
	if m, e := pauli.Compose(l); e != wanted || m.N != rows || len(m.E) != rows*rows {
		t.Errorf("%d numbers: %d rows, %d entries, error %d", len(l), m.N, len(m.E), e)
	}
}

// R3: answers are new memory, and what is handed in stays.
func TestSpectrumIsNew(t *testing.T) {
	given := []complex128{1, 2i, 3, 4}
	kept := slices.Clone(given)
	for what, call := range map[string]func() ([]complex128, api.Errno){
		"Spectrum":        func() ([]complex128, api.Errno) { return pauli.Spectrum(api.Matrix{N: 2, E: given}) },
		"Spectrum of one": func() ([]complex128, api.Errno) { return pauli.Spectrum(api.Matrix{N: 1, E: given[:1]}) },
		"Compose":         func() ([]complex128, api.Errno) { m, e := pauli.Compose(given); return m.E, e },
		"Compose of one":  func() ([]complex128, api.Errno) { m, e := pauli.Compose(given[:1]); return m.E, e },
	} {
		first, e := call()
		wanted := slices.Clone(first)
		for i := range first {
			first[i] = 99
		}
		second, f := call()
		if e != api.OK {
			t.Error(what, e)
		}
		wantRow(t, what, second, f, wanted...)
		wantRow(t, "what was handed in", given, api.OK, kept...)
	}
}
