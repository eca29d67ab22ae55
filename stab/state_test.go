package stab_test

import (
	"fmt"
	"math/rand"
	"slices"
	"testing"

	"phasor/api"
	"phasor/pauli"
	"phasor/stab"
	"phasor/state"
)

// wantState takes the state of a tableau.
func wantState(t *testing.T, a api.Tableau, wanted []complex128) {
	t.Helper()
	s, e := stab.State(a)
	if e != api.OK || !sameState(s, wanted) {
		t.Errorf("State of %v: %v, error %d, not %v", a.Stab, s, e, wanted)
	}
}

// P15.5: against the chapter's words, place by place, of tableaux with all kinds of generators.
func TestState(t *testing.T) {
	chance := rand.New(rand.NewSource(1505))
	wantState(t, fresh(0), []complex128{1})
	wantState(t, api.Tableau{}, []complex128{1})
	for n := 1; n <= 7; n++ {
		for range 400 >> (n / 2) {
			a := anyTableau(chance, n, chance.Intn(6*n))
			wantState(t, a, slowState(a))
		}
	}
	a := anyTableau(chance, 12, 100)
	wantState(t, a, slowState(a))
}

// P15.5: all signs and all letters of one qubit, and all pairs of strings of two that commute.
func TestStateOfAll(t *testing.T) {
	for _, letters := range []string{"XZ", "YX", "ZX"} {
		for _, sign := range []string{"+", "-"} {
			a := table(sign+letters[:1], "+"+letters[1:])
			wantState(t, a, slowState(a))
		}
	}
	many := 0
	letters := []string{"II", "IX", "IY", "IZ", "XI", "XX", "XY", "XZ", "YI", "YX", "YY", "YZ", "ZI", "ZX", "ZY", "ZZ"}
	for i := range 1 << 16 {
		pick := func(k int) string { return letters[i>>(4*k)&15] }
		first, second := "+"+pick(0), "-"+pick(1)
		if _, e := stab.State(table(first, second, "+"+pick(2), "+"+pick(3))); e != api.OK {
			continue
		}
		many++
		for _, signs := range []string{"++", "+-", "-+", "--"} {
			a := table(signs[:1]+first[1:], signs[1:]+second[1:], "+"+pick(2), "+"+pick(3))
			wantState(t, a, slowState(a))
		}
	}
	// There are 15 * 6 ordered pairs of generators, and 8 pairs of destabilizers of each.
	if many != 15*6*8 {
		t.Error("tableaux of two qubits:", many)
	}
}

// P15.5: by hand: which place it begins at, and that noughts have no sign.
func TestStateByHand(t *testing.T) {
	for _, c := range []struct {
		of     api.Tableau
		wanted []complex128
	}{
		{table("-X", "+Z"), []complex128{0.5, -0.5}},
		{table("+Y", "+Z"), []complex128{0.5, 0.5i}},
		{table("-Y", "+Z"), []complex128{0.5, -0.5i}},
		{table("-ZI", "+IZ", "+XI", "+IX"), []complex128{0, 1, 0, 0}},
		{table("+ZI", "-IZ", "+XI", "+IX"), []complex128{0, 0, 1, 0}},
		{table("+XX", "+ZZ", "-ZI", "+IX"), []complex128{0.5, 0, 0, 0.5}},
		{table("-XX", "+ZZ", "-ZI", "+IX"), []complex128{0.5, 0, 0, -0.5}},
		{table("+XX", "-ZZ", "-ZI", "+IX"), []complex128{0, 0.5, 0.5, 0}},
		{table("-XX", "-ZZ", "-ZI", "+IX"), []complex128{0, 0.5, -0.5, 0}},
		{table("+XI", "-IZ", "+ZI", "+IX"), []complex128{0, 0, 0.5, 0.5}},
		{table("-ZI", "-IY", "+XI", "+IX"), []complex128{0, 0.5, 0, -0.5i}},
		{table("+XZ", "+ZX", "+ZI", "+IZ"), []complex128{0.25, 0.25, 0.25, -0.25}},
	} {
		wantState(t, c.of, c.wanted)
	}
}

// P15.5: of 12 qubits the last place alone, where trying all others would take longest, the whole, and pairs.
func TestStateOfMany(t *testing.T) {
	var turned, mixed, pairs []api.Op
	for q := range 12 {
		turned, mixed = append(turned, do(api.GateX, q)), append(mixed, do(api.GateW, q))
	}
	for q := range 6 {
		pairs = append(pairs, do(api.GateX, q+6), do(api.GateW, q), do(api.GateCX, q, q+6))
	}
	last, whole, sides := make([]complex128, 4096), make([]complex128, 4096), make([]complex128, 4096)
	last[4095] = 1
	for k := range whole {
		whole[k] = 0x1p-12
		if k%64+k/64 == 63 {
			sides[k] = 0x1p-6
		}
	}
	for range 30 {
		wantState(t, ended(t, of(12, 0, turned...)).Tableau(), last)
		wantState(t, ended(t, of(12, 0, mixed...)).Tableau(), whole)
		wantState(t, ended(t, of(12, 0, pairs...)).Tableau(), sides)
	}
}

// P15.5: all of Stab leave it as it is, bit by bit; and it is exact, with a weight above 0.
func TestStateIsLeft(t *testing.T) {
	chance := rand.New(rand.NewSource(1506))
	for n := range 13 {
		for range 20 {
			a := anyTableau(chance, n, chance.Intn(8*n+1))
			s, e := stab.State(a)
			if e != api.OK || !state.Exact(s, n) {
				t.Fatal("State:", e, s)
			}
			for _, p := range a.Stab {
				if left, e := pauli.Act(p, s); e != api.OK || !sameState(left, s) {
					t.Error(p, "does not leave", s)
				}
			}
			at := slices.IndexFunc(s, func(z complex128) bool { return z != 0 })
			if weight, _ := state.Weight(s); at < 0 || weight != real(s[at]) || imag(s[at]) != 0 {
				t.Error("the first amplitude is the square's root of its own weight:", weight, at, s)
			}
		}
	}
}

// P15.5: what is not right is refused ahead of what has too many qubits.
func TestStateRefuses(t *testing.T) {
	for i, a := range wrongTableaux() {
		if s, e := stab.State(a); len(s) != 0 || e != api.ErrTableau {
			t.Error("tableau", i, s, e)
		}
	}
	chance := rand.New(rand.NewSource(1507))
	for n := 13; n <= 64; n++ {
		for _, a := range []api.Tableau{fresh(n), anyTableau(chance, n, n)} {
			if s, e := stab.State(a); len(s) != 0 || e != api.ErrStab {
				t.Error(fmt.Sprint(n, " qubits"), len(s), e)
			}
		}
	}
}

// R3: two answers share no memory, and the tableau is not kept.
func TestStateIsNew(t *testing.T) {
	a := table("+XX", "+ZZ", "-ZI", "+IX")
	first, _ := stab.State(a)
	second, _ := stab.State(a)
	first[0], a.Stab[0] = 7, api.Pauli{}
	if !sameState(second, []complex128{0.5, 0, 0, 0.5}) {
		t.Error(second)
	}
}
