package tableau_test

import (
	"fmt"
	"math/rand"
	"strings"
	"testing"

	"phasor/api"
	"phasor/pauli"
	"phasor/state"
	"phasor/tableau"
)

// letters is a string's text, its sign apart.
func letters(t *testing.T, p api.Pauli) (string, string) {
	t.Helper()
	text, e := pauli.Print(p)
	if e != api.OK {
		t.Fatal(p, e)
	}
	return text[:1], text[1:]
}

// widened is a string with letters ahead of its first and behind its last.
func widened(t *testing.T, ahead string, p api.Pauli, behind string) api.Pauli {
	t.Helper()
	sign, text := letters(t, p)
	return read(sign + ahead + text + behind)
}

func ids(n int) string { return strings.Repeat("I", n) }

// P14.8: strings beside one another, letter by letter.
func TestKron(t *testing.T) {
	chance := rand.New(rand.NewSource(1431))
	for _, n := range sizes() {
		for _, m := range sizes() {
			high, low := anyTableau(chance, n), anyTableau(chance, m)
			got, e := tableau.Kron(high, low)
			if n+m > 64 {
				wantNone(t, fmt.Sprint("Kron ", n, m), got, e, api.ErrArg)
				continue
			}
			wanted := api.Tableau{N: n + m}
			for i := range m {
				wanted.Stab = append(wanted.Stab, widened(t, "", low.Stab[i], ids(n)))
				wanted.Destab = append(wanted.Destab, widened(t, "", low.Destab[i], ids(n)))
			}
			for i := range n {
				wanted.Stab = append(wanted.Stab, widened(t, ids(m), high.Stab[i], ""))
				wanted.Destab = append(wanted.Destab, widened(t, ids(m), high.Destab[i], ""))
			}
			want(t, fmt.Sprint("Kron ", n, m), got, e, wanted)
			wantRight(t, "Kron", got)
		}
	}
}

// P14.8: just 64 qubits together may be, 65 may not.
func TestKronAtTheEdge(t *testing.T) {
	for n := range 65 {
		a, e := tableau.Kron(fresh(n), fresh(64-n))
		want(t, "64 qubits", a, e, fresh(64))
		a, e = tableau.Kron(fresh(64-n), fresh(n+1))
		if n < 64 {
			wantNone(t, "65 qubits", a, e, api.ErrArg)
		}
	}
	a, e := tableau.Kron(fresh(64), fresh(64))
	wantNone(t, "128 qubits", a, e, api.ErrArg)
}

// P14.8, by states: beside one another, and with qubits in another order, as layer 9 has them.
func TestPlacesByStates(t *testing.T) {
	chance := rand.New(rand.NewSource(1432))
	for range 150 {
		a, b := anyTableau(chance, chance.Intn(4)), anyTableau(chance, chance.Intn(4))
		both, e := tableau.Kron(a, b)
		s, f := state.Kron(slowState(a), slowState(b))
		if e != api.OK || f != api.OK || !stabilized(both, s) {
			t.Error("Kron", a, b, e, f)
		}
		to := chance.Perm(both.N)
		moved, e := tableau.Order(both, to)
		s, f = state.Order(s, to)
		if e != api.OK || f != api.OK || !stabilized(moved, s) {
			t.Error("Order", both, to, e, f)
		}
	}
}

// inverse is the order that takes another back.
func inverse(to []int) []int {
	l := make([]int, len(to))
	for q, r := range to {
		l[r] = q
	}
	return l
}

// P14.8: the letter of each qubit goes where it is told.
func TestOrder(t *testing.T) {
	chance := rand.New(rand.NewSource(1433))
	for n := range 65 {
		a, to := anyTableau(chance, n), chance.Perm(n)
		moved := func(p api.Pauli) api.Pauli {
			sign, text := letters(t, p)
			l := make([]byte, n)
			for q := range n {
				l[to[q]] = text[q]
			}
			return read(sign + string(l))
		}
		wanted := api.Tableau{N: n}
		for i := range n {
			wanted.Stab = append(wanted.Stab, moved(a.Stab[i]))
			wanted.Destab = append(wanted.Destab, moved(a.Destab[i]))
		}
		b, e := tableau.Order(a, to)
		want(t, "Order", b, e, wanted)
		wantRight(t, "Order", b)
		back, e := tableau.Order(b, inverse(to))
		want(t, "there and back", back, e, a)
	}
	b, e := tableau.Order(of("+ZII", "-IXI", "+IIY", "+XII", "+IZI", "+IIZ"), []int{1, 2, 0})
	want(t, "by hand", b, e, of("+IZI", "-IIX", "+YII", "+IXI", "+IIZ", "+ZII"))
}

// P14.8: too few and too many numbers, such that are no qubits, and twice the same.
func TestOrderRefuses(t *testing.T) {
	chance := rand.New(rand.NewSource(1434))
	refuse := func(n int, to ...int) {
		t.Helper()
		b, e := tableau.Order(fresh(n), to)
		wantNone(t, fmt.Sprint("Order ", n, to), b, e, api.ErrArg)
	}
	for _, n := range sizes() {
		refuse(n, append(chance.Perm(n), n)...)
		refuse(n, append(chance.Perm(n), 0)...)
		if n == 0 {
			continue
		}
		refuse(n, chance.Perm(n)[1:]...)
		refuse(n, chance.Perm(n-1)...)
		refuse(n)
		for _, q := range noQubits(n) {
			if q < 0 || q >= n {
				to := chance.Perm(n)
				to[chance.Intn(n)] = q
				refuse(n, to...)
			}
		}
		if n > 1 {
			to := chance.Perm(n)
			to[0] = to[n-1]
			refuse(n, to...)
		}
	}
	refuse(2, make([]int, 1<<20)...)
	for _, none := range [][]int{nil, {}} {
		b, e := tableau.Order(fresh(0), none)
		want(t, "of no qubits", b, e, fresh(0))
	}
}
