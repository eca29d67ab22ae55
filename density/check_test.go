package density_test

import (
	"math/rand"
	"testing"

	"phasor/api"
	"phasor/expect"
)

// P23.1: of 1, 2, 4, up to 64 rows, whatever stands in them; nothing else is one.
func TestCheck(t *testing.T) {
	chance := rand.New(rand.NewSource(2301))
	for n := range 7 {
		check.want(t, given{m: blank(1 << n)}, told{n: n})
		check.want(t, given{m: anyMatrix(chance, n, oddFloat)}, told{n: n})
	}
	for _, m := range noDensities() {
		check.refuses(t, "no density matrix", given{m: m}, api.ErrDensity)
	}
}

// P23.1: by hand: the row's amplitude stands as it is, the column's conjugate; noughts have the signs that the products give.
func TestFromByHand(t *testing.T) {
	for _, c := range []struct {
		s      []complex128
		wanted api.Matrix
	}{
		{[]complex128{3 + 4i}, rows(25)}, {[]complex128{0}, rows(0)},
		{[]complex128{1, 1i}, rows(1, -1i, 1i, 1)}, {[]complex128{1i, 1}, rows(1, 1i, -1i, 1)}, {[]complex128{2, 1 - 1i}, rows(4, 2+2i, 2-2i, 2)},
		{[]complex128{0, 0, 0, 1}, unit(4, 3, 3)}, {[]complex128{0, 2, 3, 0}, rows(0, 0, 0, 0, 0, 4, 6, 0, 0, 6, 9, 0, 0, 0, 0, 0)},
		{[]complex128{0, -1 - 1i}, rows(0, complex(minus0, 0), complex(minus0, minus0), 2)},
	} {
		if m := from.answer(t, given{s: c.s}).m; !equal(m, c.wanted) {
			t.Errorf("From of %v: %v, not %v", c.s, m, c.wanted)
		}
	}
	signs := from.answer(t, given{s: []complex128{0, -1 - 1i}}).m
	if !sameNumber(signs.E[1], complex(minus0, 0)) {
		t.Error("a nought was cleaned:", signs.E[1])
	}
}

// P23.1: to the bit, of all sizes and floats of all kinds.
func TestFrom(t *testing.T) {
	chance := rand.New(rand.NewSource(2302))
	for n := range 7 {
		for range 4 + 60>>n {
			for _, draw := range draws() {
				from.wantSlow(t, given{s: numbers(chance, 1<<n, draw)})
			}
		}
	}
}

// P23.1: what is no state is told ahead of how many qubits it has.
func TestFromRefuses(t *testing.T) {
	for _, s := range noStates() {
		from.refuses(t, "no state", given{s: s}, api.ErrState)
	}
	for n := 7; n <= 12; n++ {
		from.refuses(t, "too many qubits", given{s: make([]complex128, 1<<n)}, api.ErrDensity)
	}
}

// P23.1: From, cleaned, is what layer 22 rebuilds of its table, of exact states.
func TestFromIsRebuilt(t *testing.T) {
	chance := rand.New(rand.NewSource(2303))
	for n := range 6 {
		for range 20 {
			s := exact(chance, n, 12)
			table, _ := expect.Table(s)
			m, e := expect.Rebuild(table)
			if e != api.OK || !equal(from.answer(t, given{s: s}).m, m) {
				t.Fatal(s, e)
			}
		}
	}
}

// P23.1: by hand: nothing is divided, sums are from the first on, and of one matrix each nought keeps its sign.
func TestMixByHand(t *testing.T) {
	mix.want(t, given{l: []api.Matrix{rows(1, 2, 3, 4i), rows(10, 20, 30, 40)}}, told{m: rows(11, 22, 33, 40+4i)})
	mix.want(t, given{l: []api.Matrix{rows(1), rows(2), rows(4i)}}, told{m: rows(3 + 4i)})
	mix.want(t, given{l: []api.Matrix{rows(1), rows(1 << 53), rows(-1 << 53)}}, told{m: rows(0)})
	mix.want(t, given{l: []api.Matrix{rows(1 << 53), rows(-1 << 53), rows(1)}}, told{m: rows(1)})
	signed := complex(minus0, minus0)
	mix.want(t, given{l: []api.Matrix{rows(signed)}}, told{m: rows(signed)})
	mix.want(t, given{l: []api.Matrix{rows(signed), rows(signed)}}, told{m: rows(signed)})
	mix.want(t, given{l: []api.Matrix{rows(signed), rows(0)}}, told{m: rows(0)})
}

// P23.1: to the bit.
func TestMix(t *testing.T) {
	chance := rand.New(rand.NewSource(2304))
	for n := range 7 {
		for range 4 + 40>>n {
			for _, draw := range draws() {
				mix.wantSlow(t, given{l: anyMatrices(chance, 1+chance.Intn(7), n, draw)})
			}
		}
	}
	mix.wantSlow(t, given{l: anyMatrices(chance, 5000, 1, tameFloat)})
}

// P23.1: one matrix that is none, or of another number of qubits, in each place.
func TestMixRefuses(t *testing.T) {
	mix.refuses(t, "none", given{l: []api.Matrix{}}, api.ErrDensity)
	for _, wrong := range append(noDensities(), blank(1), blank(2), blank(8), blank(64)) {
		for place := range 3 {
			l := []api.Matrix{blank(4), blank(4), blank(4)}
			l[place] = wrong
			mix.refuses(t, "a matrix that does not fit", given{l: l}, api.ErrDensity)
		}
	}
	for _, wrong := range noDensities() {
		mix.refuses(t, "no density matrix alone", given{l: []api.Matrix{wrong}}, api.ErrDensity)
		mix.refuses(t, "two that are none", given{l: []api.Matrix{wrong, wrong}}, api.ErrDensity)
	}
}

// P23.1 to P23.4: each call refuses what is no density matrix, whatever else it is given.
func TestRefuseNoDensities(t *testing.T) {
	for _, f := range ofMatrix() {
		for _, m := range noDensities() {
			f.refuses(t, "no density matrix", given{m: m}, api.ErrDensity)
			g := given{m: m, l: []api.Matrix{m}, s: make([]complex128, max(0, min(m.N, 1<<13))), qubits: []int{0}, kind: api.GateX, p: api.Pauli{N: max(0, qubitsOf(min(m.N, 128)))}}
			f.refuses(t, "no density matrix", g, api.ErrDensity)
		}
	}
}

// P23.1 to P23.4: each call of a matrix of no qubits, which has one entry.
func TestSmallest(t *testing.T) {
	m := rows(2 - 1i)
	check.want(t, given{m: m}, told{n: 0})
	keep.want(t, given{m: m}, told{m: m})
	stringIn.want(t, given{m: m, p: read("-i")}, told{z: -1 - 2i})
	purity.want(t, given{m: m}, told{x: 5})
	hermitian.want(t, given{m: m}, told{})
	hermitian.want(t, given{m: rows(-3)}, told{is: true})
	weights.want(t, given{m: m}, told{floats: []float64{2}})
	product.want(t, given{s: []complex128{2i}}, told{is: true})
	fidelity.want(t, given{m: m, s: []complex128{2i}}, told{z: 8 - 4i})
	kraus.want(t, given{m: m, l: []api.Matrix{rows(2i), rows(1)}}, told{m: rows(10 - 5i)})
	for _, k := range []api.GateKind{0, api.GateI, api.GateX, api.GateCX, 21} {
		gateOn.refuses(t, "a gate on no qubits", given{m: m, kind: k}, api.ErrDensity)
		gateOn.refuses(t, "a gate on qubits that are not there", given{m: m, kind: k, qubits: []int{0}}, api.ErrDensity)
	}
}
