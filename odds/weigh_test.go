package odds_test

import (
	"math/rand"
	"testing"

	"phasor/api"
	"phasor/odds"
)

// slowMarginal gathers the squares of each number first, and adds them then.
func slowMarginal(s []complex128, qubits ...int) []float64 {
	l := make([]float64, 1<<len(qubits))
	for m := range l {
		var squares []float64
		for place, z := range s {
			is := true
			for j, q := range qubits {
				is = is && (place&(1<<q) != 0) == (m&(1<<j) != 0)
			}
			if is {
				squares = append(squares, squared(z))
			}
		}
		l[m] = added(squares)
	}
	return l
}

// P11.1: each qubit's two sums to the bit, from place 0 on, of any floats.
func TestWeigh(t *testing.T) {
	chance := rand.New(rand.NewSource(1101))
	for n := range 13 {
		for range 1 + 100>>n {
			for _, s := range states(chance, n) {
				ahead := copied(s)
				for q := range n {
					zero, one, e := odds.Weigh(s, q)
					wantFloats(t, "Weigh", []float64{zero, one}, e, slowMarginal(s, q)...)
				}
				if !sameRow(s, ahead) {
					t.Fatal("Weigh changed its argument")
				}
			}
		}
	}
}

// P11.1: by hand: which sum is whose, in which order it is taken, what overflows and what is no number.
func TestWeighByHand(t *testing.T) {
	none := complex(minus0, minus0)
	for _, c := range []struct {
		what      string
		s         []complex128
		qubit     int
		zero, one float64
	}{
		{"one qubit", []complex128{3 - 4i, 2}, 0, 25, 4},
		{"qubit 0 of three", []complex128{1, 2, 4, 8, 16, 32, 64, 128}, 0, 1 + 16 + 256 + 4096, 4 + 64 + 1024 + 16384},
		{"qubit 1 of three", []complex128{1, 2, 4, 8, 16, 32, 64, 128}, 1, 1 + 4 + 256 + 1024, 16 + 64 + 4096 + 16384},
		{"qubit 2 of three", []complex128{1, 2, 4, 8, 16, 32, 64, 128}, 2, 1 + 4 + 16 + 64, 256 + 1024 + 4096 + 16384},
		{"noughts with signs", []complex128{none, none}, 0, 0, 0},
		// 1 is lost beside 2^54, but four of them are not, if they come ahead.
		{"the great one first", []complex128{1 << 27, 1, 1, 1, 1, 1, 1, 1 << 27}, 0, 1 << 54, 1<<54 + 4},
		{"squares that are rounded", []complex128{1 + 0x1p-30, 0x1p-600}, 0, 1 + 0x1p-29, 0},
		{"a square that overflows", []complex128{1e200, 1}, 0, inf, 1},
		{"a sum that overflows", []complex128{1, 0x1.7p511, 1, 0x1.7p511}, 0, 2, inf},
		{"NaN on one side", []complex128{1, complex(0, nan), 1, inf2()}, 0, 2, nan},
		{"infinities", []complex128{inf2(), 1, 1, 1i}, 0, inf, 2},
	} {
		zero, one, e := odds.Weigh(c.s, c.qubit)
		wantFloats(t, c.what, []float64{zero, one}, e, c.zero, c.one)
	}
}

func inf2() complex128 { return complex(inf, -inf) }

// P11.2: all ways to ask few qubits, some of many, in any order.
func TestMarginal(t *testing.T) {
	chance := rand.New(rand.NewSource(1102))
	for n := range 13 {
		for many := range n + 1 {
			l := [][]int{chance.Perm(n)[:many], chance.Perm(n)[:many]}
			if n < 5 {
				l = choices(n, many)
			}
			for _, qubits := range l {
				ahead := append([]int{}, qubits...)
				s := states(chance, n)[chance.Intn(4)]
				before := copied(s)
				got, e := odds.Marginal(s, qubits)
				wantFloats(t, "Marginal", got, e, slowMarginal(s, qubits...)...)
				for j := range qubits {
					if qubits[j] != ahead[j] {
						t.Fatal("Marginal changed its qubits")
					}
				}
				if !sameRow(s, before) {
					t.Fatal("Marginal changed its state")
				}
			}
		}
	}
}

// P11.2: by hand: which bit is whose, and in which order sums are taken.
func TestMarginalByHand(t *testing.T) {
	none := complex(minus0, minus0)
	eight := []complex128{1, 2, 4, 8, 16, 32, 64, 128}
	for _, c := range []struct {
		what   string
		s      []complex128
		qubits []int
		wanted []float64
	}{
		{"no qubit of none", []complex128{2i}, nil, []float64{4}},
		{"no qubit of none, a nought", []complex128{none}, []int{}, []float64{0}},
		{"no qubit of none, no number", []complex128{complex(nan, 0)}, nil, []float64{nan}},
		{"no qubit of two", []complex128{1, 2, 2i, 4}, nil, []float64{25}},
		{"one", []complex128{1, 2, 2i, 4}, []int{1}, []float64{5, 20}},
		{"all", eight, []int{0, 1, 2}, []float64{1, 4, 16, 64, 256, 1024, 4096, 16384}},
		{"all, the other way", eight, []int{2, 1, 0}, []float64{1, 256, 16, 4096, 4, 1024, 64, 16384}},
		{"all, round", eight, []int{1, 2, 0}, []float64{1, 16, 256, 4096, 4, 64, 1024, 16384}},
		{"two", eight, []int{2, 0}, []float64{1 + 16, 256 + 4096, 4 + 64, 1024 + 16384}},
		{"two, the other way", eight, []int{0, 2}, []float64{1 + 16, 4 + 64, 256 + 4096, 1024 + 16384}},
		{"the great one first", []complex128{1 << 27, 1, 1, 1}, nil, []float64{1 << 54}},
		{"the great one last", []complex128{1, 1, 1, 1 << 27}, nil, []float64{1<<54 + 4}},
		{"noughts with signs", []complex128{none, none, none, none}, []int{1, 0}, []float64{0, 0, 0, 0}},
	} {
		got, e := odds.Marginal(c.s, c.qubits)
		wantFloats(t, c.what, got, e, c.wanted...)
	}
}

// P11.1, P11.2: a row that is no state is told first, whatever the qubits are.
func TestWeighNoState(t *testing.T) {
	for _, s := range wrongs() {
		for _, q := range append([]int{0, 1}, noQubits(2)...) {
			if zero, one, e := odds.Weigh(s, q); e != api.ErrState || !sameFloat(zero, 0) || !sameFloat(one, 0) {
				t.Errorf("Weigh of %d amplitudes, qubit %d: %v, %v, %d", len(s), q, zero, one, e)
			}
			for _, qubits := range [][]int{nil, {q}, {q, q}, {0, q}} {
				if l, e := odds.Marginal(s, qubits); e != api.ErrState || len(l) != 0 {
					t.Errorf("Marginal of %d amplitudes, qubits %v: %v, %d", len(s), qubits, l, e)
				}
			}
		}
	}
}

// P11.1: qubits that are not there; of a state of no qubit there is none.
func TestWeighNoQubit(t *testing.T) {
	for n := range 13 {
		s := make([]complex128, 1<<n)
		s[0] = 1
		for _, q := range noQubits(n) {
			if q >= 0 && q < n {
				continue
			}
			if zero, one, e := odds.Weigh(s, q); e != api.ErrOdds || !sameFloat(zero, 0) || !sameFloat(one, 0) {
				t.Errorf("qubit %d of %d: %v, %v, %d", q, n, zero, one, e)
			}
		}
	}
	if _, _, e := odds.Weigh([]complex128{1}, 0); e != api.ErrOdds {
		t.Error("a qubit of none", e)
	}
}

// P11.2: qubits that are not there, or twice, in each place of the list.
func TestMarginalRefuses(t *testing.T) {
	refuse := func(n int, qubits []int) {
		t.Helper()
		if l, e := odds.Marginal(make([]complex128, 1<<n), qubits); e != api.ErrOdds || len(l) != 0 {
			t.Errorf("qubits %v of %d: %d weights, %d", qubits[:min(len(qubits), 20)], n, len(l), e)
		}
	}
	chance := rand.New(rand.NewSource(1103))
	for n := range 13 {
		all := chance.Perm(n)
		for many := range n + 1 {
			for at := range many + 1 {
				wrong := noQubits(n)
				for _, q := range all[:many] {
					wrong = append(wrong, q)
				}
				for _, q := range wrong {
					if q >= 0 && q < n && !holds(all[:many], q) {
						continue
					}
					refuse(n, append(append(append([]int{}, all[:at]...), q), all[at:many]...))
				}
			}
		}
		refuse(n, make([]int, 1<<16+1))
		rising := make([]int, 1<<16)
		for q := range rising {
			rising[q] = q
		}
		refuse(n, rising)
	}
}

// R3: weights are new memory.
func TestWeightsAreNew(t *testing.T) {
	s := example()
	first, _ := odds.Marginal(s, []int{0, 1})
	for m := range first {
		first[m] = 99
	}
	second, e := odds.Marginal(s, []int{0, 1})
	wantFloats(t, "once more", second, e, 0.25, 0.25, 0, 0.5)
}
