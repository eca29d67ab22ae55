package tableau_test

import (
	"math"
	"math/rand"
	"slices"
	"testing"

	"phasor/api"
	"phasor/gate"
	"phasor/pauli"
	"phasor/tableau"
)

const (
	least = math.MinInt
	great = math.MaxInt
)

// read is a string of a text.
func read(text string) api.Pauli {
	p, e := pauli.Parse(text)
	if e != api.OK {
		panic(text)
	}
	return p
}

func readAll(texts ...string) []api.Pauli {
	l := make([]api.Pauli, len(texts))
	for i, text := range texts {
		l[i] = read(text)
	}
	return l
}

// of is a tableau of texts: the first half of them is Stab, the second Destab.
func of(texts ...string) api.Tableau {
	l := readAll(texts...)
	n := len(l) / 2
	return api.Tableau{N: n, Stab: slices.Clone(l[:n]), Destab: slices.Clone(l[n:])}
}

// fresh is the tableau of n qubits at 0, by hand.
func fresh(n int) api.Tableau {
	t := api.Tableau{N: n}
	for q := range n {
		t.Stab = append(t.Stab, api.Pauli{N: n, Z: 1 << q})
		t.Destab = append(t.Destab, api.Pauli{N: n, X: 1 << q})
	}
	return t
}

// bell is the chapter's first tableau.
func bell() api.Tableau { return of("+XX", "+ZZ", "-ZI", "+IX") }

// copied is a tableau in memory of its own.
func copied(t api.Tableau) api.Tableau {
	return api.Tableau{N: t.N, Stab: slices.Clone(t.Stab), Destab: slices.Clone(t.Destab)}
}

// sizes are numbers of qubits: the least, the greatest, and where numbers of 32 and 64 bits end.
func sizes() []int { return []int{0, 1, 2, 3, 5, 8, 12, 13, 31, 32, 33, 62, 63, 64} }

// anyString is one of n qubits with a sign, at chance.
func anyString(chance *rand.Rand, n int) api.Pauli {
	cut := func(x uint64) uint64 {
		if n == 0 {
			return 0
		}
		return x >> (64 - n)
	}
	return api.Pauli{N: n, X: cut(chance.Uint64()), Z: cut(chance.Uint64()), Phase: 2 * chance.Intn(2)}
}

// signedStrings is all strings of n qubits with a sign.
func signedStrings(n int) []api.Pauli {
	var l []api.Pauli
	for _, phase := range []int{0, 2} {
		for x := range uint64(1) << n {
			for z := range uint64(1) << n {
				l = append(l, api.Pauli{N: n, X: x, Z: z, Phase: phase})
			}
		}
	}
	return l
}

// cliffords are the kinds that tableaux take.
func cliffords() []api.GateKind {
	var l []api.GateKind
	for k := api.GateI; k <= api.GateHH; k++ {
		l = append(l, k)
	}
	return l
}

// anyGate is a Clifford gate on some of n qubits, n above 0.
func anyGate(chance *rand.Rand, n int) (api.GateKind, []int) {
	for {
		k := cliffords()[chance.Intn(17)]
		if gate.Arity(k) <= n {
			return k, chance.Perm(n)[:gate.Arity(k)]
		}
	}
}

// driven is what gates at chance make of the qubits at 0, without a call of the package.
func driven(chance *rand.Rand, n, gates int) api.Tableau {
	t := fresh(n)
	for range gates {
		if n == 0 {
			break
		}
		k, qubits := anyGate(chance, n)
		for i := range n {
			t.Stab[i] = through(t.Stab[i], k, qubits...)
			t.Destab[i] = through(t.Destab[i], k, qubits...)
		}
	}
	return t
}

// anyTableau is a right one at chance, with strings that no gates alone would give: signs, other generators, other destabilizers.
func anyTableau(chance *rand.Rand, n int) api.Tableau {
	t := driven(chance, n, 4*n)
	for range 4 * n {
		i, j := chance.Intn(n), chance.Intn(n)
		switch chance.Intn(4) {
		case 0:
			t.Stab[i].Phase ^= 2
			t.Destab[j].Phase ^= 2
		case 1:
			t.Stab[i], t.Stab[j] = t.Stab[j], t.Stab[i]
			t.Destab[i], t.Destab[j] = t.Destab[j], t.Destab[i]
		case 2:
			t = regenerated(t, i, j)
		case 3:
			t = reshaded(t, i, j)
		}
	}
	return t
}

// regenerated has Stab[i] multiplied with Stab[j], and what then parts with both put right.
func regenerated(t api.Tableau, i, j int) api.Tableau {
	if i != j {
		t.Stab[i] = mul(t.Stab[i], t.Stab[j])
		t.Destab[j] = mul(t.Destab[j], t.Destab[i])
	}
	return t
}

// reshaded has other destabilizers of the same stabilizers.
func reshaded(t api.Tableau, i, j int) api.Tableau {
	if i != j {
		t.Destab[i], t.Destab[j] = mul(t.Destab[i], t.Stab[j]), mul(t.Destab[j], t.Stab[i])
		return t
	}
	p := mul(t.Destab[i], t.Stab[i])
	p.Phase = 0
	t.Destab[i] = p
	return t
}

// wrongs are tableaux that are not right.
func wrongs() []api.Tableau {
	l := []api.Tableau{
		{N: -1}, {N: -64}, {N: 1}, {N: 64}, {N: 65}, {N: 1 << 32}, {N: least}, {N: great},
		fresh(65), fresh(66), fresh(128),
	}
	for _, n := range sizes() {
		l = append(l, miscounted(n)...)
		if n > 0 {
			l = append(l, spoiled(n)...)
		}
	}
	return l
}

// miscounted are tableaux whose numbers do not fit.
func miscounted(n int) []api.Tableau {
	var l []api.Tableau
	for _, by := range []int{-1, 1, -n - 1, 64, 1 << 32} {
		t := fresh(n)
		t.N += by
		l = append(l, t)
	}
	t := fresh(n)
	t.Stab = append(t.Stab, api.Pauli{N: n})
	u := fresh(n)
	u.Destab = append(u.Destab, api.Pauli{N: n})
	both := fresh(n)
	both.Stab, both.Destab = append(both.Stab, api.Pauli{N: n}), append(both.Destab, api.Pauli{N: n})
	l = append(l, t, u, both)
	if n > 0 {
		t, u = fresh(n), fresh(n)
		t.Stab, u.Destab = t.Stab[:n-1], u.Destab[:n-1]
		l = append(l, t, u, api.Tableau{N: n, Stab: fresh(n).Stab}, api.Tableau{N: n, Destab: fresh(n).Destab})
	}
	return l
}

// spoiled are tableaux with one string that may not be.
func spoiled(n int) []api.Tableau {
	var l []api.Tableau
	last := uint64(1) << (n - 1)
	for _, change := range []func(p *api.Pauli){
		func(p *api.Pauli) { p.Phase = 1 }, func(p *api.Pauli) { p.Phase = 3 }, func(p *api.Pauli) { p.Phase = 4 },
		func(p *api.Pauli) { p.Phase = -1 }, func(p *api.Pauli) { p.Phase = -2 }, func(p *api.Pauli) { p.Phase = least }, func(p *api.Pauli) { p.Phase = great - 1 },
		func(p *api.Pauli) { p.N-- }, func(p *api.Pauli) { p.N++ }, func(p *api.Pauli) { p.N = -1 }, func(p *api.Pauli) { p.N = 64 + n },
		func(p *api.Pauli) { p.X, p.Z = 0, 0 }, func(p *api.Pauli) { p.X, p.Z = p.Z, p.X },
		func(p *api.Pauli) { *p = api.Pauli{} },
	} {
		for _, i := range []int{0, n / 2, n - 1} {
			t, u := fresh(n), fresh(n)
			change(&t.Stab[i])
			change(&u.Destab[i])
			l = append(l, t, u)
		}
	}
	if n < 64 {
		t, u := fresh(n), fresh(n)
		t.Stab[0].X |= last << 1
		u.Destab[n-1].Z |= last << 1
		l = append(l, t, u)
	}
	if n > 1 {
		l = append(l, crossed(n)...)
	}
	return l
}

// crossed are tableaux in which just one pair of strings commutes, or does not, where it may not.
func crossed(n int) []api.Tableau {
	var l []api.Tableau
	for _, pair := range [][2]int{{0, 1}, {1, 0}, {0, n - 1}, {n - 1, 0}, {n / 2, n - 1}} {
		i, j := pair[0], pair[1]
		if i == j {
			continue
		}
		stabs, destabs, mixed, same := fresh(n), fresh(n), fresh(n), fresh(n)
		stabs.Stab[i].X |= 1 << j
		destabs.Destab[i].Z |= 1 << j
		mixed.Destab[i].X |= 1 << j
		same.Stab[i] = same.Stab[j]
		l = append(l, stabs, destabs, mixed, same)
	}
	return l
}

// sameTableau tells whether tableaux have the same strings.
func sameTableau(a, b api.Tableau) bool {
	return a.N == b.N && slices.Equal(a.Stab, b.Stab) && slices.Equal(a.Destab, b.Destab)
}

// want takes a tableau to be the one that is wanted, and an error to be wrong.
func want(t *testing.T, what string, got api.Tableau, e api.Errno, wanted api.Tableau) {
	t.Helper()
	if e != api.OK || !sameTableau(got, wanted) {
		t.Errorf("%s: %v, error %d, not %v", what, got, e, wanted)
	}
}

// wantNone takes a tableau beside an error to be of nothing.
func wantNone(t *testing.T, what string, got api.Tableau, e, wanted api.Errno) {
	t.Helper()
	if e != wanted || got.N != 0 || len(got.Stab) != 0 || len(got.Destab) != 0 {
		t.Errorf("%s: %v, error %d, not %d", what, got, e, wanted)
	}
}

// wantNumber takes a number and an error to be those that are wanted.
func wantNumber(t *testing.T, what string, got int, e api.Errno, wanted int, error api.Errno) {
	t.Helper()
	if got != wanted || e != error {
		t.Errorf("%s: %d, error %d, not %d, %d", what, got, e, wanted, error)
	}
}

// wantRight takes a tableau to be right, by the package and by the slow one.
func wantRight(t *testing.T, what string, got api.Tableau) {
	t.Helper()
	if e := tableau.Check(got); e != api.OK || !slowRight(got) {
		t.Errorf("%s: %v, error %d", what, got, e)
	}
}

// mul and through are layer 13's, of what may be asked.
func mul(l ...api.Pauli) api.Pauli {
	p := l[0]
	for _, q := range l[1:] {
		both, e := pauli.Mul(p, q)
		if e != api.OK {
			panic("Mul")
		}
		p = both
	}
	return p
}

func through(p api.Pauli, k api.GateKind, qubits ...int) api.Pauli {
	behind, e := pauli.Through(p, k, qubits)
	if e != api.OK {
		panic("Through")
	}
	return behind
}

// negative is a string with the other sign.
func negative(p api.Pauli) api.Pauli {
	p.Phase ^= 2
	return p
}

// choice is some of n qubits, at chance, in any order.
func choice(chance *rand.Rand, n int) []int { return chance.Perm(n)[:chance.Intn(n+1)] }

// others are the qubits that are not among these.
func others(qubits []int, n int) []int {
	var l []int
	for q := range n {
		if !slices.Contains(qubits, q) {
			l = append(l, q)
		}
	}
	return l
}
