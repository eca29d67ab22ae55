package density_test

import (
	"math"
	"math/rand"
	"testing"

	"phasor/api"
	"phasor/expect"
	"phasor/pauli"
)

// P23.3: by hand: the string stands on the left; its phase turns the sum.
func TestPauliByHand(t *testing.T) {
	m := rows(1, 2, 3, 4)
	for text, wanted := range map[string]complex128{"+I": 5, "+X": 5, "+Z": -3, "+Y": -1i, "-Y": 1i, "+iI": 5i, "-iZ": 3i} {
		if z := stringIn.answer(t, given{m: m, p: read(text)}).z; z != wanted {
			t.Errorf("%s in %v: %v, not %v", text, m, z, wanted)
		}
	}
	for _, c := range []struct {
		m      api.Matrix
		p      string
		wanted complex128
	}{
		{unit(4, 1, 0), "+XI", 1}, {unit(4, 1, 0), "+IX", 0}, {unit(4, 1, 0), "+YI", -1i}, {unit(4, 0, 1), "+YI", 1i}, {unit(4, 2, 0), "+IY", -1i}, {unit(4, 3, 0), "+XX", 1}, {unit(4, 1, 2), "+XX", 1}, {unit(4, 1, 1), "+ZI", -1}, {unit(4, 1, 1), "+IZ", 1}, {unit(4, 3, 3), "+ZZ", 1}, {unit(4, 3, 1), "+ZX", -1}, {unit(4, 2, 0), "+ZX", 1},
		{rows(1<<53, 0, 0, 1), "+I", 1 << 53}, {rows(1, 1<<53, 1, -1<<53), "+Z", 1 << 53},
	} {
		if z := stringIn.answer(t, given{m: c.m, p: read(c.p)}).z; z != c.wanted {
			t.Errorf("%s in %v: %v, not %v", c.p, c.m, z, c.wanted)
		}
	}
	signed := complex(minus0, minus0)
	stringIn.want(t, given{m: rows(signed), p: read("+")}, told{z: 0})
}

// P23.3: to the bit, of all strings of two qubits, and of some of up to six.
func TestPauli(t *testing.T) {
	chance := rand.New(rand.NewSource(2311))
	for n := range 7 {
		for range 100 {
			for _, draw := range draws() {
				stringIn.wantSlow(t, given{m: anyMatrix(chance, n, draw), p: anyString(chance, n)})
			}
		}
	}
	for place := range 64 {
		p := api.Pauli{N: 2, X: uint64(place & 3), Z: uint64(place >> 2 & 3), Phase: place >> 4}
		stringIn.wantSlow(t, given{m: anyMatrix(chance, 2, tameFloat), p: p})
	}
}

// P23.3: sums are from the first entry of the diagonal on.
func TestPauliIsAddedInOrder(t *testing.T) {
	m := blank(4)
	m.E[0], m.E[5], m.E[10], m.E[15] = 1<<53, 1, 1, -1<<53
	stringIn.want(t, given{m: m, p: read("+II")}, told{z: 0})
	m.E[0], m.E[15] = m.E[15], m.E[0]
	stringIn.want(t, given{m: m, p: read("+II")}, told{z: 2})
}

// P23.3: strings that are not right, or of another number of qubits.
func TestPauliRefuses(t *testing.T) {
	for n := range 7 {
		for _, p := range wrongStrings() {
			stringIn.refuses(t, "a wrong string", given{m: blank(1 << n), p: p}, api.ErrDensity)
		}
		for other := range 65 {
			if other != n {
				stringIn.refuses(t, "another number", given{m: blank(1 << n), p: api.Pauli{N: other}}, api.ErrDensity)
			}
		}
	}
}

// P23.3: of an exact state a string is worth what layer 22 says, and of a matrix of three qubits what layer 13 finds of it there.
func TestPauliAndOthers(t *testing.T) {
	chance := rand.New(rand.NewSource(2312))
	for n := range 7 {
		for range 50 {
			s, p := exact(chance, n, 12), anyString(chance, n)
			wanted, e := expect.Value(s, p)
			if z := stringIn.answer(t, given{m: from.answer(t, given{s: s}).m, p: p}).z; e != api.OK || z != wanted {
				t.Fatalf("%v in %v: %v, not %v", p, s, z, wanted)
			}
		}
	}
	for n := range 4 {
		m := anyMatrix(chance, n, func(chance *rand.Rand) float64 { return float64(chance.Intn(201) - 100) })
		l, _ := pauli.Spectrum(m)
		for i, share := range l {
			p := api.Pauli{N: n, X: uint64(i % (1 << n)), Z: uint64(i >> n)}
			if z := stringIn.answer(t, given{m: m, p: p}).z; z != share*complex(math.Ldexp(1, n), 0) {
				t.Fatalf("%v in %v: %v, not %v", p, m, z, share)
			}
		}
	}
}

// P23.3: by hand: squares are added row by row.
func TestPurityByHand(t *testing.T) {
	for _, c := range []struct {
		m      api.Matrix
		wanted float64
	}{
		{rows(0), 0}, {rows(3 - 4i), 25}, {rows(1, 2, 3, 4), 30}, {rows(1i, -1i, 0, 1+1i), 4}, {rows(complex(minus0, minus0)), 0}, {rows(complex(nan, 0)), nan}, {rows(complex(-inf, 0)), inf}, {rows(complex(0, nan), complex(inf, 0), 0, 0), nan}, {rows(1e200), inf}, {rows(1e-200), 0},
		{rows(1<<27, 1, 1, 1), 1 << 54}, {rows(1, 1, 1, 1<<27), 1<<54 + 4}, {rows(1, 1, 1<<27, 1), 1 << 54}, {rows(1+1i, 1, 1<<27, 1), 1<<54 + 4},
	} {
		purity.want(t, given{m: c.m}, told{x: c.wanted})
	}
}

// P23.3: to the bit, of all sizes and floats of all kinds.
func TestPurityAndWeights(t *testing.T) {
	chance := rand.New(rand.NewSource(2313))
	for n := range 7 {
		for range 8 + 100>>n {
			for _, draw := range draws() {
				m := anyMatrix(chance, n, draw)
				purity.wantSlow(t, given{m: m})
				weights.wantSlow(t, given{m: m})
			}
		}
	}
}

// P23.3: by hand: imaginary parts are left out, noughts keep their signs.
func TestWeightsByHand(t *testing.T) {
	weights.want(t, given{m: rows(1+2i, 3, 4, -5i)}, told{floats: []float64{1, 0}})
	weights.want(t, given{m: rows(complex(minus0, 1), 3, 4, complex(nan, inf))}, told{floats: []float64{minus0, nan}})
	weights.want(t, given{m: rows(complex(-inf, nan))}, told{floats: []float64{-inf}})
	m := blank(4)
	for k := range m.E {
		m.E[k] = complex(float64(k), -1)
	}
	weights.want(t, given{m: m}, told{floats: []float64{0, 5, 10, 15}})
}

// P23.3: by hand: a nought has either sign, an entry on the diagonal is real, a NaN is equal to nothing.
func TestHermitianByHand(t *testing.T) {
	for _, c := range []struct {
		m      api.Matrix
		wanted bool
	}{
		{rows(0), true}, {rows(-2), true}, {rows(1i), false}, {rows(complex(1, minus0)), true}, {rows(complex(inf, 0)), true}, {rows(complex(0, inf)), false}, {rows(complex(nan, 0)), false}, {rows(complex(1, nan)), false},
		{rows(1, 2i, -2i, 3), true}, {rows(1, 2i, 2i, 3), false}, {rows(1, 2, -2, 3), false}, {rows(1, 2, 2, 3), true}, {rows(1, 2+1i, 2-1i, 3), true}, {rows(1, 2+1i, 2-1i, 3i), false}, {rows(1i, 2, 2, 3), false},
		{rows(0, complex(minus0, 0), complex(0, 0), 0), true}, {rows(0, complex(inf, -inf), complex(inf, inf), 0), true}, {rows(0, complex(inf, inf), complex(inf, inf), 0), false}, {rows(0, complex(nan, 0), complex(nan, 0), 0), false}, {rows(1, tiny, 0, 1), false},
	} {
		hermitian.want(t, given{m: c.m}, told{is: c.wanted})
	}
	for _, m := range noDensities() {
		hermitian.want(t, given{m: m}, told{is: false})
	}
}

// P23.3: each entry counts: of a matrix that is its own adjoint any one entry is turned.
func TestHermitian(t *testing.T) {
	chance := rand.New(rand.NewSource(2314))
	for n := range 7 {
		m := anyMatrix(chance, n, tameFloat)
		back := slowAdjoint(m)
		for k, z := range back.E {
			m.E[k] = times(0.5, m.E[k]+z)
		}
		hermitian.want(t, given{m: m}, told{is: true})
		for range 40 {
			k := chance.Intn(len(m.E))
			kept := m.E[k]
			m.E[k] += 1i
			hermitian.want(t, given{m: m}, told{is: false})
			m.E[k] = kept
			if row, column := k/m.N, k%m.N; row != column {
				m.E[k] += 1
				hermitian.want(t, given{m: m}, told{is: false})
				m.E[k] = kept
			}
		}
		for _, draw := range draws() {
			hermitian.wantSlow(t, given{m: anyMatrix(chance, n, draw)})
		}
	}
}

// P23.4: by hand: the state is conjugate on the left alone.
func TestFidelityByHand(t *testing.T) {
	for _, c := range []struct {
		m      api.Matrix
		s      []complex128
		wanted complex128
	}{
		{rows(1, 2, 3, 4), []complex128{1, 0}, 1}, {rows(1, 2, 3, 4), []complex128{0, 1i}, 4}, {rows(1, 2, 3, 4), []complex128{1, 1}, 10}, {rows(1, 2, 3, 4), []complex128{1, 1i}, 5 - 1i}, {rows(1, 2i, 0, 0), []complex128{1, 1i}, -1}, {rows(1, 0, 2i, 0), []complex128{1, 1i}, 3},
		{corners(), bell(), 1}, {corners(), []complex128{0.5, 0, 0, -0.5}, 0}, {corners(), []complex128{0, 1, 0, 0}, 0}, {corners(), []complex128{1, 0, 0, 0}, 0.5}, {blank(2), []complex128{1, 1}, 0},
		{rows(1<<53, 0, 0, 1), []complex128{1, 1}, 1 << 53},
	} {
		if z := fidelity.answer(t, given{m: c.m, s: c.s}).z; z != c.wanted {
			t.Errorf("%v in %v: %v, not %v", c.s, c.m, z, c.wanted)
		}
	}
}

// P23.4: to the bit, of all sizes and floats of all kinds.
func TestFidelity(t *testing.T) {
	chance := rand.New(rand.NewSource(2315))
	for n := range 7 {
		for range 8 + 100>>n {
			for _, draw := range draws() {
				fidelity.wantSlow(t, given{m: anyMatrix(chance, n, draw), s: numbers(chance, 1<<n, draw)})
			}
		}
	}
}

// P23.4: what is no state, and states of another number of qubits, are refused by one error.
func TestFidelityRefuses(t *testing.T) {
	for n := range 7 {
		for _, s := range noStates() {
			fidelity.refuses(t, "no state", given{m: blank(1 << n), s: s}, api.ErrDensity)
		}
		for other := range 13 {
			if other != n {
				fidelity.refuses(t, "another number", given{m: blank(1 << n), s: make([]complex128, 1<<other)}, api.ErrDensity)
			}
		}
	}
}
