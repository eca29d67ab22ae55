package tableau_test

import (
	"fmt"
	"math/rand"
	"slices"
	"testing"

	"phasor/api"
	"phasor/tableau"
)

// pivot is the first bit of a string that is 1; -1 of none.
func pivot(p api.Pauli) int {
	for column := range 2 * p.N {
		if bitOf(p, column) == 1 {
			return column
		}
	}
	return -1
}

func bitOf(p api.Pauli, column int) uint64 {
	if column < p.N {
		return p.X / (1 << column) % 2
	}
	return p.Z / (1 << (column - p.N)) % 2
}

// reduced tells whether rows are in reduced echelon form, and none is I everywhere.
func reduced(l []api.Pauli) bool {
	last := -1
	for i, p := range l {
		at := pivot(p)
		if at <= last {
			return false
		}
		last = at
		for j, q := range l {
			if i != j && bitOf(q, at) == 1 {
				return false
			}
		}
	}
	return true
}

// wantCanon takes the canon to be as many products of the stabilizers, reduced: there is one such row alone.
func wantCanon(t *testing.T, a api.Tableau) []api.Pauli {
	t.Helper()
	l, e := tableau.Canon(a)
	if e != api.OK || len(l) != a.N || !reduced(l) {
		t.Fatalf("Canon of %v: %v, error %d", a, l, e)
	}
	for _, p := range l {
		if slowProduct(a, p) != p {
			t.Errorf("%v is no product of %v", p, a.Stab)
		}
	}
	return l
}

// P14.6: reduced, of all sizes, and by all products of few qubits.
func TestCanon(t *testing.T) {
	chance := rand.New(rand.NewSource(1421))
	for n := range 65 {
		for range 3 {
			wantCanon(t, anyTableau(chance, n))
		}
	}
	for n := range 6 {
		for range 20 {
			a := anyTableau(chance, n)
			all := group(a)
			for _, p := range wantCanon(t, a) {
				if !all[p] {
					t.Error(a, p)
				}
			}
		}
	}
}

// P14.6: by hand: columns of X are ahead of those of Z, qubit 0 is the first, and signs are those of the products.
func TestCanonByHand(t *testing.T) {
	for _, c := range []struct {
		a      api.Tableau
		wanted []string
	}{
		{fresh(0), nil},
		{of("-Y", "+Z"), []string{"-Y"}},
		{of("+IZ", "+ZI", "+IX", "+XI"), []string{"+ZI", "+IZ"}},
		{of("+ZZ", "-IZ", "+XI", "+XX"), []string{"-ZI", "-IZ"}},
		{of("+ZZ", "-YY", "+IY", "-ZI"), []string{"+XX", "+ZZ"}},
		{of("+ZZ", "+YY", "+IY", "-ZI"), []string{"-XX", "+ZZ"}},
		{of("+YX", "-ZZ", "+ZI", "+IX"), []string{"-XY", "-ZZ"}},
		{of("+IX", "+ZI", "+IZ", "+XI"), []string{"+IX", "+ZI"}},
	} {
		l, e := tableau.Canon(c.a)
		if e != api.OK || !slices.Equal(l, readAll(c.wanted...)) {
			t.Error(c.a.Stab, l, e)
		}
	}
}

// P14.10: neither the order of Stab nor one multiplied with another turns the canon; nor do destabilizers. P14.6: such are the same.
func TestCanonIsOne(t *testing.T) {
	chance := rand.New(rand.NewSource(1422))
	for n := 1; n <= 64; n++ {
		a := anyTableau(chance, n)
		wanted := wantCanon(t, a)
		b := copied(a)
		for range 2 * n {
			i, j := chance.Intn(n), chance.Intn(n)
			b.Stab[i], b.Stab[j] = b.Stab[j], b.Stab[i]
			b.Destab[i], b.Destab[j] = b.Destab[j], b.Destab[i]
			b = regenerated(b, i, chance.Intn(n))
			b = reshaded(b, j, chance.Intn(n))
			b.Destab[i].Phase ^= 2
		}
		if got := wantCanon(t, b); !slices.Equal(got, wanted) || !tableau.Same(a, b) || !tableau.Same(b, a) {
			t.Error(n, got, wanted)
		}
		i := chance.Intn(n)
		b.Stab[i].Phase ^= 2
		if tableau.Same(a, b) || tableau.Same(b, a) {
			t.Error("a sign:", n)
		}
	}
}

// P14.6: all states of one and of two qubits, each the same as itself alone.
func TestSameOfAll(t *testing.T) {
	for n, wanted := range []int{1, 6, 60} {
		states := map[string]api.Tableau{}
		chance := rand.New(rand.NewSource(1423))
		for range 3000 {
			a := anyTableau(chance, n)
			states[fmt.Sprint(wantCanon(t, a))] = a
		}
		if len(states) != wanted {
			t.Error(n, "qubits:", len(states), "states")
		}
		for x, a := range states {
			for y, b := range states {
				if tableau.Same(a, b) != (x == y) {
					t.Error(x, y)
				}
				many, e := tableau.Overlap(a, b)
				if e != api.OK || (many == 0) != (x == y) {
					t.Error("Overlap", x, y, many, e)
				}
			}
		}
	}
}

// P14.6: of unlike numbers of qubits.
func TestSameOfUnlikeNumbers(t *testing.T) {
	for _, n := range sizes() {
		for _, m := range sizes() {
			if tableau.Same(fresh(n), fresh(m)) != (n == m) {
				t.Error(n, m)
			}
		}
	}
}

// P14.9, P14.10: by the rank, by the products within, and that both sides have the same, from 0 to the lesser number.
func TestCut(t *testing.T) {
	chance := rand.New(rand.NewSource(1424))
	for n := range 65 {
		for range 6 {
			a := anyTableau(chance, n)
			qubits := choice(chance, n)
			rest := others(qubits, n)
			many, e := tableau.Cut(a, qubits)
			wantNumber(t, "Cut", many, e, slowRank(a, qubits)-len(qubits), api.OK)
			back, e := tableau.Cut(a, rest)
			wantNumber(t, "Cut of the others", back, e, many, api.OK)
			if many < 0 || many > min(len(qubits), len(rest)) {
				t.Error("Cut", n, qubits, many)
			}
		}
	}
	for n := range 7 {
		for range 30 {
			a := driven(chance, n, 2*n)
			qubits := choice(chance, n)
			many, e := tableau.Cut(a, qubits)
			wantNumber(t, "Cut", many, e, slowCut(a, qubits), api.OK)
		}
	}
}

// P14.9: by hand: of no qubits and of all, of qubits at 0, of one row of 64, of 32 pairs.
func TestCutByHand(t *testing.T) {
	wantCut := func(a api.Tableau, wanted int, qubits ...int) {
		t.Helper()
		many, e := tableau.Cut(a, qubits)
		wantNumber(t, fmt.Sprint("Cut ", qubits), many, e, wanted, api.OK)
	}
	wantCut(fresh(0), 0)
	wantCut(bell(), 0)
	wantCut(bell(), 1, 1)
	wantCut(bell(), 0, 1, 0)
	row, pairs := fresh(64), fresh(64)
	row = done(t, row, api.GateW, 0)
	for q := range 63 {
		row = done(t, row, api.GateCX, q, q+1)
	}
	for q := range 32 {
		pairs = done(t, done(t, pairs, api.GateW, q), api.GateCX, q, q+32)
	}
	var first, both []int
	for q := range 32 {
		first, both = append(first, q), append(both, q, q+32)
		wantCut(fresh(64), 0, first...)
		wantCut(row, 1, first...)
		wantCut(pairs, q+1, first...)
		if q < 31 {
			wantCut(row, 1, both...)
		}
		wantCut(pairs, 0, both...)
	}
	wantCut(row, 0, both...)
	wantCut(row, 1, 63)
}

// P14.9: qubits that are not there, or stand twice.
func TestCutRefuses(t *testing.T) {
	refuse := func(n int, qubits ...int) {
		t.Helper()
		many, e := tableau.Cut(fresh(n), qubits)
		wantNumber(t, fmt.Sprint("Cut ", n, qubits), many, e, 0, api.ErrArg)
	}
	for _, n := range sizes() {
		for _, q := range noQubits(n) {
			if q < 0 || q >= n {
				refuse(n, q)
				refuse(n, 0, q)
				refuse(n, q, 0)
			}
		}
		if n > 0 {
			refuse(n, 0, 0)
			refuse(n, n-1, n-1)
			refuse(n, append([]int{n - 1}, rand.New(rand.NewSource(1)).Perm(n)...)...)
			refuse(n, append(rand.New(rand.NewSource(2)).Perm(n), 0)...)
		}
	}
	refuse(3, make([]int, 1<<20)...)
}
