package tableau_test

import (
	"math/rand"
	"slices"
	"testing"

	"phasor/api"
	"phasor/apply"
	"phasor/gate"
	"phasor/pauli"
	"phasor/state"
	"phasor/tableau"
)

// P14.10: of a circuit from New on each stabilizer leaves the state of the same gates as it is, bit by bit, and Odds is as its weights.
func TestCircuitsFollow(t *testing.T) {
	chance := rand.New(rand.NewSource(1441))
	for n := 1; n <= 12; n++ {
		for range 4 + 40>>(n/3) {
			a := begun(t, n)
			s, e := state.Basis(n, 0)
			if e != api.OK {
				t.Fatal(e)
			}
			halves := 0
			for range 6 * n {
				k, qubits := anyGate(chance, n)
				if gate.Halving(k) {
					halves++
				}
				if halves > api.MaxHalves {
					break
				}
				a = done(t, a, k, qubits...)
				s, e = apply.Gate(s, k, qubits)
				if e != api.OK {
					t.Fatal(e)
				}
			}
			circuitFollows(t, a, s)
		}
	}
}

func circuitFollows(t *testing.T, a api.Tableau, s []complex128) {
	t.Helper()
	wantRight(t, "Gate", a)
	for _, p := range a.Stab {
		acted, e := pauli.Act(p, s)
		if e != api.OK || !state.Same(acted, s) {
			t.Fatalf("%v does not leave the state as it is, error %d", p, e)
		}
	}
	for q := range a.N {
		v, e := tableau.Odds(a, q)
		wantNumber(t, "Odds", v, e, slowOdds(t, s, q), api.OK)
	}
}

// answers are all tableaux, and rows of strings, that calls answer of one right tableau.
func answers(a api.Tableau) map[string]func() (api.Tableau, api.Errno) {
	to := make([]int, a.N)
	for q := range to {
		to[q] = q
	}
	calls := map[string]func() (api.Tableau, api.Errno){
		"New":             func() (api.Tableau, api.Errno) { return tableau.New(a.N) },
		"Gate":            func() (api.Tableau, api.Errno) { return tableau.Gate(a, api.GateI, []int{0}) },
		"Order":           func() (api.Tableau, api.Errno) { return tableau.Order(a, to) },
		"Kron high":       func() (api.Tableau, api.Errno) { return tableau.Kron(a, fresh(0)) },
		"Kron low":        func() (api.Tableau, api.Errno) { return tableau.Kron(fresh(0), a) },
		"Kron":            func() (api.Tableau, api.Errno) { return tableau.Kron(a, a) },
		"Force of I":      func() (api.Tableau, api.Errno) { b, _, e := tableau.Force(a, api.Pauli{N: a.N}); return b, e },
		"Force of a Stab": func() (api.Tableau, api.Errno) { b, _, e := tableau.Force(a, a.Stab[0]); return b, e },
		"Force":           func() (api.Tableau, api.Errno) { b, _, e := tableau.Force(a, a.Destab[1]); return b, e },
		"Canon": func() (api.Tableau, api.Errno) {
			l, e := tableau.Canon(a)
			return api.Tableau{N: a.N, Stab: l, Destab: make([]api.Pauli, a.N)}, e
		},
	}
	for q := range a.N {
		v, _ := tableau.Odds(a, q)
		calls["Project "+string(rune('0'+q))] = func() (api.Tableau, api.Errno) { return tableau.Project(a, q, v%2) }
		calls["Settle "+string(rune('0'+q))] = func() (api.Tableau, api.Errno) { return tableau.Settle(a, q, v%2) }
	}
	return calls
}

// R3: answers are new memory, what is handed in stays, and so does what stands behind its end.
func TestAnswersAreNew(t *testing.T) {
	chance := rand.New(rand.NewSource(1442))
	for range 20 {
		given := anyTableau(chance, 4)
		stab, destab := append(slices.Clone(given.Stab), read("+XYZ")), append(slices.Clone(given.Destab), read("-i"))
		kept, keptToo := slices.Clone(stab), slices.Clone(destab)
		for what, call := range answers(api.Tableau{N: 4, Stab: stab[:4], Destab: destab[:4]}) {
			first, e := call()
			wanted := copied(first)
			for i := range first.Stab {
				first.Stab[i] = api.Pauli{N: 99}
			}
			if e != api.OK || !slices.Equal(first.Destab, wanted.Destab) {
				t.Error(what, "Destab shares with Stab:", first, e)
			}
			first.Stab = append(first.Stab, api.Pauli{N: 98})
			for i := range first.Destab {
				first.Destab[i] = api.Pauli{N: 97}
			}
			first.Destab = append(first.Destab, api.Pauli{N: 96})
			second, e := call()
			want(t, what, second, e, wanted)
			if !slices.Equal(stab, kept) || !slices.Equal(destab, keptToo) {
				t.Fatal(what, "what was handed in:", stab, destab)
			}
		}
	}
}

// R3: calls that answer numbers leave what is handed in, too.
func TestNumbersLeaveTableaux(t *testing.T) {
	chance := rand.New(rand.NewSource(1443))
	for range 50 {
		a, b := anyTableau(chance, 5), anyTableau(chance, 5)
		first, second := copied(a), copied(b)
		qubits, kept := []int{3, 1}, []int{3, 1}
		tableau.Check(a)
		tableau.Odds(a, 2)
		tableau.Member(a, anyString(chance, 5))
		tableau.Overlap(a, b)
		tableau.Same(a, b)
		tableau.Cut(a, qubits)
		tableau.Gate(a, api.GateCX, qubits)
		tableau.Order(a, qubits)
		if !sameTableau(a, first) || !sameTableau(b, second) || !slices.Equal(qubits, kept) {
			t.Error(a, b, qubits)
		}
	}
}

// FuzzTableaux asks every call of any numbers, of tableaux that are right and of such that may not be.
func FuzzTableaux(f *testing.F) {
	f.Add(3, int64(1), 0, 1, uint64(5), uint64(4), 2, 11, 0, 2)
	f.Add(64, int64(2), 63, 0, uint64(1<<63), uint64(1), 0, 15, 63, 0)
	f.Add(0, int64(3), -1, 2, uint64(0), uint64(0), 4, 18, -1, 64)
	f.Fuzz(func(t *testing.T, n int, seed int64, qubit, value int, x, z uint64, phase, kind, q, r int) {
		chance := rand.New(rand.NewSource(seed))
		size := int(uint(n) % 65)
		a, p := anyTableau(chance, size), api.Pauli{N: n, X: x, Z: z, Phase: phase}
		askAny(t, a, p, api.GateKind(kind), []int{q, r}, qubit, value)
		wantForce(t, a, anyString(chance, size))
		wantCanon(t, a)
		for i := range a.Stab {
			if chance.Intn(8) == 0 {
				a.Stab[i] = p
			}
		}
		a.N = n
		if right := slowRight(a); right != (tableau.Check(a) == api.OK) {
			t.Error("Check", a, right)
		}
		askAny(t, a, p, api.GateKind(kind), []int{q, r}, qubit, value)
	})
}

// askAny asks of what may not be right: what is answered without an error is right.
func askAny(t *testing.T, a api.Tableau, p api.Pauli, k api.GateKind, qubits []int, qubit, value int) {
	t.Helper()
	among := func(b api.Tableau, e api.Errno) {
		t.Helper()
		if e == api.OK {
			wantRight(t, "an answer", b)
		} else {
			wantNone(t, "an answer", b, e, e)
		}
	}
	among(tableau.Gate(a, k, qubits))
	among(tableau.Gate(a, k, qubits[:1]))
	among(tableau.Project(a, qubit, value))
	among(tableau.Settle(a, qubit, value))
	among(tableau.Order(a, qubits))
	among(tableau.Kron(a, a))
	b, _, e := tableau.Force(a, p)
	among(b, e)
	tableau.Odds(a, qubit)
	tableau.Member(a, p)
	tableau.Overlap(a, a)
	tableau.Same(a, a)
	tableau.Cut(a, qubits)
}
