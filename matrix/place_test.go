package matrix_test

import (
	"math"
	"math/rand"
	"slices"
	"testing"

	"phasor/api"
	"phasor/matrix"
)

// choices calls back with every row of count unlike qubits of n.
func choices(n, count int, ahead []int, each func(qubits []int)) {
	if count == 0 {
		each(slices.Clone(ahead))
		return
	}
	for q := range n {
		if !slices.Contains(ahead, q) {
			choices(n, count-1, append(slices.Clone(ahead), q), each)
		}
	}
}

// placed lays the entries of a matrix out one by one: of each state of the other qubits, and of each row and column, where the entry comes to.
func placed(m api.Matrix, qubits []int, n int) api.Matrix {
	spread := func(index int) int {
		to := 0
		for t, q := range qubits {
			if index/(1<<t)%2 == 1 {
				to += 1 << q
			}
		}
		return to
	}
	big := unit(1<<n, 0)
	for rest := range 1 << n {
		if slices.ContainsFunc(qubits, func(q int) bool { return rest/(1<<q)%2 == 1 }) {
			continue
		}
		for i := range m.N {
			for j := range m.N {
				big.E[big.N*(rest+spread(i))+rest+spread(j)] = entry(m, i, j)
			}
		}
	}
	return big
}

// P7.4: every way to choose up to three qubits of up to six, and all orders of as many as there are; the entries come with all their bits.
func TestPlace(t *testing.T) {
	chance := rand.New(rand.NewSource(79))
	for n := range 7 {
		for count := range n + 1 {
			if count > 3 && (count != n || n > 5) {
				continue
			}
			choices(n, count, nil, func(qubits []int) {
				m := odd(chance, 1<<count)
				got, e := matrix.Place(m, qubits, n)
				wantMatrix(t, "Place", got, e, placed(m, qubits, n))
			})
		}
	}
	for range 20 {
		m, qubits := odd(chance, 64), chance.Perm(6)
		got, e := matrix.Place(m, qubits, 6)
		wantMatrix(t, "Place of 64 rows", got, e, placed(m, qubits, 6))
	}
}

// P7.4: by hand: the first qubit is the lowest bit of m's index, and noughts have no sign.
func TestPlaceByHand(t *testing.T) {
	m := of(2, -1, complex(minus0, minus0), 3, -4)
	zero := complex(minus0, minus0)
	for _, c := range []struct {
		m      api.Matrix
		qubits []int
		n      int
		wanted api.Matrix
	}{
		{m, []int{0}, 1, m},
		{m, []int{0}, 2, of(4, -1, zero, 0, 0, 3, -4, 0, 0, 0, 0, -1, zero, 0, 0, 3, -4)},
		{m, []int{1}, 2, of(4, -1, 0, zero, 0, 0, -1, 0, zero, 3, 0, -4, 0, 0, 3, 0, -4)},
		{of(1, 5i), nil, 0, of(1, 5i)},
		{of(1, -5i), []int{}, 2, unit(4, -5i)},
		{of(4, 1, 2, 3, 4, 5, 6, 7, 8, 9, 10, 11, 12, 13, 14, 15, 16), []int{1, 0}, 2, of(4, 1, 3, 2, 4, 9, 11, 10, 12, 5, 7, 6, 8, 13, 15, 14, 16)},
	} {
		got, e := matrix.Place(c.m, c.qubits, c.n)
		wantMatrix(t, "Place by hand", got, e, c.wanted)
	}
}

// P7.4: what is wrong, and that a shape that is wrong is told ahead of one that is too large.
func TestPlaceRefuses(t *testing.T) {
	for i, c := range []struct {
		rows   int
		qubits []int
		n      int
		e      api.Errno
	}{
		{2, []int{0}, -1, api.ErrShape},
		{1, nil, -1, api.ErrShape},
		{1, nil, math.MinInt, api.ErrShape},
		{2, []int{0}, 0, api.ErrShape},
		{2, []int{1}, 1, api.ErrShape},
		{2, []int{6}, 6, api.ErrShape},
		{2, []int{-1}, 3, api.ErrShape},
		{2, []int{math.MinInt}, 3, api.ErrShape},
		{2, []int{math.MaxInt}, 3, api.ErrShape},
		{4, []int{1, 1}, 3, api.ErrShape},
		{8, []int{0, 2, 0}, 3, api.ErrShape},
		{8, []int{0, 1, 3}, 3, api.ErrShape},
		{2, nil, 3, api.ErrShape},
		{1, []int{0}, 3, api.ErrShape},
		{3, []int{0}, 3, api.ErrShape},
		{3, []int{0, 1}, 3, api.ErrShape},
		{2, []int{0, 1}, 3, api.ErrShape},
		{4, []int{0}, 3, api.ErrShape},
		{64, []int{0, 1, 2, 3, 4}, 6, api.ErrShape},
		{64, []int{0, 1, 2, 3, 4, 5, 6}, 7, api.ErrShape},
		{1, make([]int, 64), 100, api.ErrShape},
		{1, make([]int, 70), 100, api.ErrShape},
		{2, []int{0}, 7, api.ErrBig},
		{2, []int{0}, 63, api.ErrBig},
		{2, []int{0}, 64, api.ErrBig},
		{2, []int{0}, 65, api.ErrBig},
		{2, []int{math.MaxInt - 1}, math.MaxInt, api.ErrBig},
		{1, nil, 7, api.ErrBig},
		{1, nil, math.MaxInt, api.ErrBig},
		{64, []int{0, 1, 2, 3, 4, 6}, 7, api.ErrBig},
		{2, []int{7}, 7, api.ErrShape},
		{4, []int{3, 3}, 7, api.ErrShape},
		{2, []int{0, 1}, 64, api.ErrShape},
	} {
		got, e := matrix.Place(unit(c.rows, 1), c.qubits, c.n)
		if e != c.e || got.N != 0 || len(got.E) != 0 {
			t.Errorf("%d: %d rows, error %d, not %d", i, got.N, e, c.e)
		}
	}
}
