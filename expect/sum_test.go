package expect_test

import (
	"math"
	"math/rand"
	"slices"
	"testing"

	"phasor/api"
	"phasor/expect"
)

// P22.2: by hand: the real parts of values times the weights, added from the first term on.
func TestEnergyByHand(t *testing.T) {
	one := []complex128{1, 0}
	for _, c := range []struct {
		s      []complex128
		terms  []api.Term
		wanted float64
	}{
		{one, nil, 0}, {one, []api.Term{}, 0}, {[]complex128{2}, nil, 0}, {[]complex128{2}, []api.Term{term(3, "+")}, 12}, {[]complex128{2}, []api.Term{term(3, "-")}, -12},
		{one, []api.Term{term(3, "+Z")}, 3}, {one, []api.Term{term(3, "-Z")}, -3}, {one, []api.Term{term(-3, "-Z")}, 3}, {one, []api.Term{term(3, "+X")}, 0}, {one, []api.Term{term(3, "+Z"), term(4, "+Z"), term(5, "+I")}, 12},
		{one, []api.Term{term(minus0, "+Z")}, 0}, {one, []api.Term{term(0, "-Z")}, 0}, {one, []api.Term{term(tiny, "+Z")}, tiny}, {one, []api.Term{term(math.MaxFloat64, "-Z")}, -math.MaxFloat64}, {one, []api.Term{term(math.MaxFloat64, "+Z"), term(math.MaxFloat64, "+Z")}, inf},
		{one, []api.Term{term(1, "+Z"), term(1<<53, "+Z"), term(1<<53, "-Z")}, 0}, {one, []api.Term{term(1<<53, "+Z"), term(1<<53, "-Z"), term(1, "+Z")}, 1},
		{[]complex128{3, 1}, []api.Term{term(0.5, "+X"), term(0.25, "+Z")}, 5}, {[]complex128{complex(inf, 0), 0}, []api.Term{term(0, "+Z")}, nan},
		{[]complex128{0, 1, 0, 0}, []api.Term{term(1, "+ZI"), term(10, "+IZ"), term(100, "+ZZ"), term(1000, "+II")}, 909},
	} {
		energy.want(t, c.s, c.terms, told{x: c.wanted})
	}
	three := []complex128{1 + 1i, 1} // of weight 3: the product is rounded, and so is the sum
	tenth := 0.1
	energy.want(t, three, []api.Term{term(tenth, "+I"), term(-tenth, "+I")}, told{x: 0})
	energy.want(t, three, []api.Term{term(tenth, "+I")}, told{x: tenth * 3})
}

// P22.9: by hand: what strings make of a state, weighed and added, and how much of it is along the state.
func TestImageByHand(t *testing.T) {
	one := []complex128{1, 0}
	for _, c := range []struct {
		s      []complex128
		terms  []api.Term
		wanted []complex128
		x, y   float64
	}{
		{one, nil, []complex128{0, 0}, 0, 0}, {[]complex128{5}, nil, []complex128{0}, 0, 0}, {bell(), []api.Term{}, make([]complex128, 4), 0, 0},
		{[]complex128{2i}, []api.Term{term(3, "-")}, []complex128{-6i}, -12, 36},
		{one, []api.Term{term(2, "+Z")}, []complex128{2, 0}, 2, 4}, {one, []api.Term{term(2, "-Z")}, []complex128{-2, 0}, -2, 4}, {one, []api.Term{term(2, "+Y")}, []complex128{0, 2i}, 0, 4}, {one, []api.Term{term(3, "+Z"), term(4, "+X")}, []complex128{3, 4}, 3, 25},
		{one, []api.Term{term(3, "+Z"), term(3, "-Z")}, []complex128{0, 0}, 0, 0}, {one, []api.Term{term(minus0, "+Z")}, []complex128{0, 0}, 0, 0}, {one, []api.Term{term(-1, "+X")}, []complex128{0, -1}, 0, 1},
		{one, []api.Term{term(1, "+I"), term(1<<53, "+Z"), term(1<<53, "-Z")}, []complex128{0, 0}, 0, 0}, {one, []api.Term{term(1<<53, "+Z"), term(1<<53, "-Z"), term(1, "+I")}, []complex128{1, 0}, 1, 1},
		{[]complex128{0, 1, 0, 0}, []api.Term{term(1, "+XI"), term(10, "+IX"), term(100, "+ZI")}, []complex128{1, -100, 0, 10}, -100, 10101},
		{[]complex128{complex(inf, 0), 0}, []api.Term{term(0, "+I")}, []complex128{complex(nan, 0), 0}, nan, nan},
		{[]complex128{0.5 + 0.5i, 0.5 + 0.5i}, []api.Term{term(1, "+X"), term(1, "+Z")}, []complex128{1 + 1i, 0}, 1, 2},
	} {
		image.want(t, c.s, c.terms, told{numbers: c.wanted})
		spread.want(t, c.s, c.terms, told{x: c.x, y: c.y})
	}
}

// someTerms is of strings of n qubits, with weights that are finite.
func someTerms(chance *rand.Rand, n, many int) []api.Term {
	var l []api.Term
	for range many {
		x := oddFloat(chance)
		if math.IsInf(x, 0) || x != x || chance.Intn(3) == 0 {
			x = tameFloat(chance)
		}
		l = append(l, api.Term{Coef: x, P: hermitian(chance, n)})
	}
	return l
}

// P22.2, P22.9: to the bit, of states of all sizes and floats of all kinds.
func TestSums(t *testing.T) {
	chance := rand.New(rand.NewSource(2202))
	for n := range 13 {
		for i := range 10 + 300>>n {
			terms := someTerms(chance, n, chance.Intn(9))
			s := amplitudes(chance, n, tameFloat)
			if i%5 == 0 {
				s = amplitudes(chance, n, oddFloat)
			}
			for _, f := range sums() {
				f.want(t, s, terms, slowSums(f, s, terms))
			}
		}
	}
}

// P22.2, P22.9: many terms, of one string again and again, too.
func TestManyTerms(t *testing.T) {
	chance := rand.New(rand.NewSource(2203))
	for n := range 4 {
		s, terms := amplitudes(chance, n, tameFloat), someTerms(chance, n, 3000)
		for _, f := range sums() {
			f.want(t, s, terms, slowSums(f, s, terms))
		}
	}
	energy.want(t, bell(), slices.Repeat([]api.Term{term(0.5, "+XX")}, 1<<14), told{x: 1 << 13})
	spread.want(t, bell(), slices.Repeat([]api.Term{term(0.5, "+XX")}, 1<<14), told{x: 1 << 13, y: 1 << 26})
}

// P22.2: what is no state is told ahead of all terms.
func TestSumsRefuseStates(t *testing.T) {
	lists := [][]api.Term{nil, {term(1, "+")}, {term(1, "+iX")}, {{Coef: nan, P: api.Pauli{N: 2}}}, {{P: api.Pauli{N: -1}}}, {{P: api.Pauli{N: 13}}}}
	for _, s := range noStates() {
		for _, f := range sums() {
			for _, terms := range lists {
				f.refuses(t, "no state", s, terms, api.ErrState)
			}
		}
	}
}

// P22.2: a term that may not be is told of wherever it stands, and by whatever it may not be.
func TestSumsRefuseTerms(t *testing.T) {
	for _, n := range []int{0, 1, 2, 3, 12} {
		s := make([]complex128, 1<<n)
		good := api.Term{Coef: 1, P: api.Pauli{N: n, Phase: 2}}
		for _, wrong := range wrongTerms(n) {
			for _, f := range sums() {
				f.refuses(t, "one term", s, []api.Term{wrong}, api.ErrExpect)
				f.refuses(t, "the first", s, []api.Term{wrong, good, good}, api.ErrExpect)
				f.refuses(t, "the middle", s, []api.Term{good, wrong, good}, api.ErrExpect)
				f.refuses(t, "the last", s, []api.Term{good, good, wrong}, api.ErrExpect)
			}
		}
		for _, f := range sums() {
			f.answer(t, s, good, good)
		}
	}
}

// wrongTerms may not be asked of states of n qubits.
func wrongTerms(n int) []api.Term {
	l := []api.Term{
		{Coef: inf, P: api.Pauli{N: n}}, {Coef: -inf, P: api.Pauli{N: n}}, {Coef: nan, P: api.Pauli{N: n}}, {Coef: math.Float64frombits(0xfff0000000000001), P: api.Pauli{N: n}},
		{Coef: 1, P: api.Pauli{N: n, Phase: 1}}, {Coef: 1, P: api.Pauli{N: n, Phase: 3}}, {Coef: 0, P: api.Pauli{N: n, Phase: 1}},
		{Coef: 1, P: api.Pauli{N: n, X: 1 << n}}, {Coef: 1, P: api.Pauli{N: n, Z: 1 << 63}}, {Coef: nan, P: api.Pauli{N: n + 1, Phase: 1}},
	}
	for other := range 65 {
		if other != n {
			l = append(l, api.Term{Coef: 1, P: api.Pauli{N: other}})
		}
	}
	for _, p := range wrongStrings() {
		l = append(l, api.Term{Coef: 1, P: p})
	}
	return l
}

// R3: an image is new memory.
func TestImageIsNew(t *testing.T) {
	s := []complex128{1, 2, 3, 4}
	for _, terms := range [][]api.Term{nil, {term(1, "+II")}, {term(1, "+XI"), term(2, "+ZZ")}} {
		first, _ := expect.Image(s, terms)
		clear(first)
		_ = append(first[:1], 9, 9)
		image.want(t, s, terms, told{numbers: slowImage(s, terms)})
	}
}
