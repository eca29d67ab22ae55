package density_test

import (
	"math/rand"
	"slices"
	"testing"

	"phasor/api"
)

// P23.2: each entry of three qubits alone, kept by each list of qubits: it stays where the others' bits are the same in row and column, and goes to the index of the kept ones.
func TestKeepOfUnits(t *testing.T) {
	for _, qubits := range [][]int{nil, {0}, {1}, {2}, {0, 1}, {1, 0}, {2, 0}, {0, 2}, {1, 2}, {2, 1}, {0, 1, 2}, {2, 1, 0}, {1, 2, 0}} {
		side := 1 << len(qubits)
		for row := range 8 {
			for column := range 8 {
				wanted := blank(side)
				if others := rest(qubits, 3); indexAt(row, others) == indexAt(column, others) {
					wanted = unit(side, indexAt(row, qubits), indexAt(column, qubits))
				}
				keep.want(t, given{m: unit(8, row, column), qubits: qubits}, told{m: wanted})
			}
		}
	}
}

// P23.2: by hand: the first qubit of the list is the lowest bit, the others' places rise, and nothing is cleaned.
func TestKeepByHand(t *testing.T) {
	m := rows(
		1, 2, 3, 4,
		5, 6, 7, 8,
		9, 10, 11, 12,
		13, 14, 15, 16)
	for _, c := range []struct {
		qubits []int
		wanted api.Matrix
	}{
		{nil, rows(34)}, {[]int{}, rows(34)}, {[]int{0}, rows(12, 14, 20, 22)}, {[]int{1}, rows(7, 11, 23, 27)}, {[]int{0, 1}, m},
		{[]int{1, 0}, rows(1, 3, 2, 4, 9, 11, 10, 12, 5, 7, 6, 8, 13, 15, 14, 16)},
	} {
		keep.want(t, given{m: m, qubits: c.qubits}, told{m: c.wanted})
	}
	order := blank(4)
	order.E[0], order.E[5], order.E[10], order.E[15] = 1<<53, 1, 1, -1<<53
	keep.want(t, given{m: order}, told{m: rows(0)})
	order.E[5], order.E[15] = order.E[15], order.E[5]
	keep.want(t, given{m: order}, told{m: rows(2)})
	signed := complex(minus0, minus0)
	keep.want(t, given{m: rows(signed, 0, 0, signed)}, told{m: rows(signed)})
	keep.want(t, given{m: rows(signed, 0, 0, 0)}, told{m: rows(0)})
}

// P23.2: to the bit, of all sizes and floats of all kinds.
func TestKeep(t *testing.T) {
	chance := rand.New(rand.NewSource(2305))
	for n := range 7 {
		for range 8 + 100>>n {
			for _, draw := range draws() {
				keep.wantSlow(t, given{m: anyMatrix(chance, n, draw), qubits: somePart(chance, n)})
			}
		}
	}
}

// P23.2: all orders of all qubits.
func TestKeepAll(t *testing.T) {
	chance := rand.New(rand.NewSource(2306))
	for n := range 7 {
		m := anyMatrix(chance, n, oddFloat)
		var all []int
		for q := range n {
			all = append(all, q)
		}
		keep.want(t, given{m: m, qubits: all}, told{m: m})
		slices.Reverse(all)
		keep.wantSlow(t, given{m: m, qubits: all})
	}
}

// P23.2: keeping by and by is keeping at once, of whole numbers.
func TestKeepByAndBy(t *testing.T) {
	chance := rand.New(rand.NewSource(2307))
	for n := range 7 {
		for range 20 {
			m := anyMatrix(chance, n, func(chance *rand.Rand) float64 { return float64(chance.Intn(2001) - 1000) })
			first := somePart(chance, n)
			second := somePart(chance, len(first))
			both := make([]int, len(second))
			for t, q := range second {
				both[t] = first[q]
			}
			kept := keep.answer(t, given{m: m, qubits: first}).m
			keep.want(t, given{m: kept, qubits: second}, keep.answer(t, given{m: m, qubits: both}))
		}
	}
}

// P23.2: qubits that are not there, or twice there, and too many.
func TestKeepRefuses(t *testing.T) {
	for n := range 7 {
		for _, qubits := range wrongQubits(n) {
			keep.refuses(t, "wrong qubits", given{m: blank(1 << n), qubits: qubits}, api.ErrDensity)
		}
	}
}
