package expect_test

import (
	"math/rand"
	"slices"
	"testing"

	"phasor/api"
	"phasor/expect"
	"phasor/pauli"
	"phasor/tableau"
)

// bellTableau is that of the chapter's state.
func bellTableau() api.Tableau {
	return api.Tableau{N: 2, Stab: []api.Pauli{read("+XX"), read("+ZZ")}, Destab: []api.Pauli{read("-ZI"), read("+IX")}}
}

// asksTableau calls, and takes what was handed in to be as it was.
func asksTableau(t *testing.T, x api.Tableau, p api.Pauli) (int, api.Errno) {
	t.Helper()
	stab, destab := slices.Clone(x.Stab), slices.Clone(x.Destab)
	v, e := expect.Tableau(x, p)
	if !slices.Equal(stab, x.Stab) || !slices.Equal(destab, x.Destab) {
		t.Fatal("what was handed in was changed")
	}
	return v, e
}

func wantTableau(t *testing.T, x api.Tableau, p api.Pauli, wanted int, error api.Errno) {
	t.Helper()
	if v, e := asksTableau(t, x, p); v != wanted || e != error {
		t.Errorf("%v in %v: %d, error %d, not %d, %d", p, x, v, e, wanted, error)
	}
}

// P22.6: by hand.
func TestTableauByHand(t *testing.T) {
	for text, wanted := range map[string]int{"+II": 1, "-II": -1, "+XX": 1, "-XX": -1, "-YY": 1, "+YY": -1, "+ZZ": 1, "-ZZ": -1, "+ZI": 0, "-IX": 0, "+XY": 0, "-YZ": 0} {
		wantTableau(t, bellTableau(), read(text), wanted, api.OK)
	}
	wantTableau(t, api.Tableau{}, read("+"), 1, api.OK)
	wantTableau(t, api.Tableau{}, read("-"), -1, api.OK)
	wide, _ := tableau.New(64)
	for q := range 64 {
		wantTableau(t, wide, api.Pauli{N: 64, Z: 1 << q}, 1, api.OK)
		wantTableau(t, wide, api.Pauli{N: 64, Z: 1<<q | 1<<63, Phase: 2}, -1, api.OK)
		wantTableau(t, wide, api.Pauli{N: 64, X: 1 << q}, 0, api.OK)
	}
}

// anyTableau is what Clifford gates at chance make of the qubits at 0.
func anyTableau(chance *rand.Rand, n int) api.Tableau {
	x, _ := tableau.New(n)
	for _, op := range (wish{qubits: n, ops: 4 * n, halves: great, clifford: true}).drawn(chance).Ops {
		if op.Kind == api.OpGate {
			x, _ = tableau.Gate(x, op.Gate, op.Qubits)
		}
	}
	return x
}

// someProduct is one of some of Stab.
func someProduct(chance *rand.Rand, x api.Tableau) api.Pauli {
	p := api.Pauli{N: x.N}
	for _, q := range x.Stab {
		if chance.Intn(2) == 0 {
			p, _ = pauli.Mul(p, q)
		}
	}
	return p
}

// P22.6: up to 64 qubits: products of some of Stab, their negatives, and these with a destabilizer, which are neither.
func TestTableauOfProducts(t *testing.T) {
	chance := rand.New(rand.NewSource(2211))
	for n := range 65 {
		for range 3 {
			x := anyTableau(chance, n)
			p := someProduct(chance, x)
			wantTableau(t, x, p, 1, api.OK)
			wantTableau(t, x, turnedString(p, 2), -1, api.OK)
			if n > 0 {
				q, _ := pauli.Mul(p, x.Destab[chance.Intn(n)])
				q.Phase &= 2
				wantTableau(t, x, q, 0, api.OK)
			}
		}
	}
}

// P22.6: layer 14's errors: what is no tableau is told ahead of the string.
func TestTableauRefuses(t *testing.T) {
	twice := bellTableau()
	twice.Stab[1] = twice.Stab[0]
	open := bellTableau()
	open.Stab[0].Phase = 1
	short := bellTableau()
	short.Destab = short.Destab[:1]
	for _, x := range []api.Tableau{{N: -1}, {N: 1}, {N: 65}, {N: great}, {N: least}, twice, open, short} {
		for _, p := range []api.Pauli{{N: 2}, {N: 2, Phase: 1}, {N: -1}, {N: 3}} {
			wantTableau(t, x, p, 0, api.ErrTableau)
		}
	}
	for _, p := range append(wrongStrings(), api.Pauli{N: 2, Phase: 1}, api.Pauli{N: 2, Phase: 3}, api.Pauli{N: 1}, api.Pauli{N: 3}, api.Pauli{}) {
		wantTableau(t, bellTableau(), p, 0, api.ErrArg)
	}
}
