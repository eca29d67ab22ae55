package pauli_test

import (
	"math"
	"math/bits"
	"math/rand"
	"strings"
	"testing"

	"phasor/api"
	"phasor/pauli"
)

// P13.1: what is right: from 0 to 64 qubits, no bit from the last on, a phase from 0 to 3.
func TestCheck(t *testing.T) {
	chance := rand.New(rand.NewSource(1301))
	for n := range 65 {
		full := api.Pauli{N: n, X: math.MaxUint64, Z: math.MaxUint64}
		if n < 64 {
			full.X, full.Z = 1<<n-1, 1<<n-1
		}
		for phase := range 4 {
			full.Phase = phase
			for _, p := range []api.Pauli{{N: n, Phase: phase}, full, anyString(chance, n)} {
				if e := pauli.Check(p); e != api.OK {
					t.Error(p, e)
				}
			}
		}
	}
	for _, p := range wrongs() {
		if e := pauli.Check(p); e != api.ErrPauli {
			t.Error(p, e)
		}
	}
}

// P13.1: the letter of each qubit, of no other, and of no string that is not right.
func TestLetter(t *testing.T) {
	for _, c := range []struct {
		p      api.Pauli
		wanted string
	}{
		{api.Pauli{N: 4, X: 0b0110, Z: 0b1100}, "IXYZ"},
		{api.Pauli{N: 4, X: 0b0110, Z: 0b1100, Phase: 3}, "IXYZ"},
		{api.Pauli{N: 5, X: 0b00001, Z: 0b10000, Phase: 1}, "XIIIZ"},
		{api.Pauli{N: 64, X: 1 << 63, Z: 1<<63 | 1}, "Z" + strings.Repeat("I", 62) + "Y"},
		{api.Pauli{}, ""},
	} {
		for q, wanted := range []byte(c.wanted) {
			if got := pauli.Letter(c.p, q); got != wanted {
				t.Errorf("%v, %d: %c", c.p, q, got)
			}
		}
	}
	for _, n := range sizes() {
		for _, q := range []int{-1, -2, -64, n, n + 1, 64, 65, 128, 1 << 32, least, least + 1, great} {
			if got := pauli.Letter(api.Pauli{N: n}, q); got != 0 && (q < 0 || q >= n) {
				t.Errorf("%d qubits, %d: %c", n, q, got)
			}
		}
	}
	for _, p := range wrongs() {
		for _, q := range []int{0, 1, 63, -1, 64, p.N - 1, p.N} {
			if got := pauli.Letter(p, q); got != 0 {
				t.Errorf("%v, %d: %c", p, q, got)
			}
		}
	}
}

// P13.1: how many letters are not I, and whether the phase is a sign.
func TestWeightAndHermitian(t *testing.T) {
	for _, c := range []struct {
		p         api.Pauli
		weight    int
		hermitian bool
	}{
		{of(0, ""), 0, true}, {of(1, ""), 0, false}, {of(2, ""), 0, true}, {of(3, ""), 0, false},
		{of(0, "I"), 0, true}, {of(2, "X"), 1, true}, {of(1, "Y"), 1, false}, {of(0, "Z"), 1, true},
		{of(0, "IXYZ"), 3, true}, {of(3, "YIIYIZ"), 3, false}, {of(2, strings.Repeat("Y", 64)), 64, true},
	} {
		if got := pauli.Weight(c.p); got != c.weight {
			t.Error("Weight", c.p, got)
		}
		if got := pauli.Hermitian(c.p); got != c.hermitian {
			t.Error("Hermitian", c.p, got)
		}
	}
	chance := rand.New(rand.NewSource(1302))
	for range 1000 {
		p := anyString(chance, chance.Intn(65))
		if wanted := p.N - strings.Count(lettersOf(p), "I"); pauli.Weight(p) != wanted {
			t.Error("Weight", p, wanted)
		}
	}
	for _, p := range wrongs() {
		if w := pauli.Weight(p); w != 0 || pauli.Hermitian(p) {
			t.Error(p, w)
		}
	}
}

// P13.2: the products of two letters, by hand.
func TestMulOfLetters(t *testing.T) {
	rows := []string{
		"I I +I", "I X +X", "I Y +Y", "I Z +Z",
		"X I +X", "X X +I", "X Y +iZ", "X Z -iY",
		"Y I +Y", "Y X -iZ", "Y Y +I", "Y Z +iX",
		"Z I +Z", "Z X +iY", "Z Y -iX", "Z Z +I",
	}
	for _, row := range rows {
		words := strings.Fields(row)
		sign, letter := words[2][:len(words[2])-1], words[2][len(words[2])-1:]
		phase := map[string]int{"+": 0, "+i": 1, "-": 2, "-i": 3}[sign]
		p, e := pauli.Mul(of(0, words[0]), of(0, words[1]))
		want(t, row, p, e, of(phase, letter))
		for a := range 4 {
			for b := range 4 {
				p, e := pauli.Mul(of(a, words[0]), of(b, words[1]))
				want(t, row, p, e, of((phase+a+b)%4, letter))
			}
		}
	}
}

// P13.2: products of strings are those of their matrices, the left one on the left.
func TestMulOfMatrices(t *testing.T) {
	for n := range 3 {
		for _, a := range all(n) {
			for _, b := range all(n) {
				both := mul(t, a, b)
				if !equalMatrix(stringMatrix(both), plainProduct(stringMatrix(a), stringMatrix(b))) {
					t.Fatalf("%v times %v: %v", a, b, both)
				}
			}
		}
	}
	chance := rand.New(rand.NewSource(1303))
	for range 500 {
		a, b := anyString(chance, 4), anyString(chance, 4)
		both := mul(t, a, b)
		if !equalMatrix(stringMatrix(both), plainProduct(stringMatrix(a), stringMatrix(b))) {
			t.Fatalf("%v times %v: %v", a, b, both)
		}
	}
}

// P13.2: products of strings of any length are those of their letters.
func TestMulOfLongStrings(t *testing.T) {
	chance := rand.New(rand.NewSource(1304))
	for n := range 65 {
		for range 60 {
			a, b := anyString(chance, n), anyString(chance, n)
			p, e := pauli.Mul(a, b)
			want(t, "Mul", p, e, slowMul(a, b))
		}
	}
	long := func(letter string) string { return strings.Repeat(letter, 64) }
	p, e := pauli.Mul(of(0, long("X")), of(1, long("Z")))
	want(t, "64 times X and Z", p, e, of(1, long("Y")))
	p, e = pauli.Mul(of(3, long("X")[1:]), of(3, long("Y")[1:]))
	want(t, "63 times X and Y", p, e, of(1, long("Z")[1:]))
}

// P13.2: an inverse takes a string to no letters, from either side.
func TestInverse(t *testing.T) {
	chance := rand.New(rand.NewSource(1305))
	for n := range 65 {
		for phase := range 4 {
			p := anyString(chance, n)
			p.Phase = phase
			back, e := pauli.Inverse(p)
			want(t, "Inverse", back, e, of([4]int{0, 3, 2, 1}[phase], lettersOf(p)))
			want(t, "p and its inverse", mul(t, p, back), api.OK, api.Pauli{N: n})
			want(t, "the inverse and p", mul(t, back, p), api.OK, api.Pauli{N: n})
		}
	}
}

// P13.2: strings commute if their products are one in either order: if unlike letters meet an even number of times.
func TestCommute(t *testing.T) {
	wantCommute := func(a, b api.Pauli, wanted bool) {
		t.Helper()
		if is, e := pauli.Commute(a, b); is != wanted || e != api.OK {
			t.Errorf("%v and %v: %t, error %d", a, b, is, e)
		}
	}
	for _, c := range []struct {
		a, b string
		is   bool
	}{
		{"", "", true}, {"I", "X", true}, {"X", "X", true}, {"X", "Y", false}, {"Y", "Z", false}, {"Z", "X", false}, {"Y", "Y", true},
		{"XX", "ZZ", true}, {"XI", "ZI", false}, {"XI", "IZ", true}, {"XYZ", "YZX", false}, {"XYZI", "YZXX", false}, {"XYZY", "YZXX", true},
	} {
		wantCommute(of(0, c.a), of(0, c.b), c.is)
		wantCommute(of(1, c.b), of(2, c.a), c.is)
	}
	for n := range 3 {
		for _, a := range all(n) {
			for _, b := range all(n) {
				wantCommute(a, b, equalMatrix(plainProduct(stringMatrix(a), stringMatrix(b)), plainProduct(stringMatrix(b), stringMatrix(a))))
			}
		}
	}
	chance := rand.New(rand.NewSource(1306))
	for n := range 65 {
		for range 30 {
			a, b := anyString(chance, n), anyString(chance, n)
			wantCommute(a, b, slowMul(a, b) == slowMul(b, a))
			wantCommute(a, b, bits.OnesCount64(a.X&b.Z^a.Z&b.X)%2 == 0)
		}
	}
}

// P13.2: what is not right, and strings of unlike length.
func TestMulRefuses(t *testing.T) {
	refuse := func(a, b api.Pauli) {
		t.Helper()
		p, e := pauli.Mul(a, b)
		wantNone(t, "Mul", p, e)
		if is, e := pauli.Commute(a, b); is || e != api.ErrPauli {
			t.Errorf("Commute of %v and %v: %t, error %d", a, b, is, e)
		}
	}
	for _, wrong := range wrongs() {
		refuse(wrong, wrong)
		for _, n := range []int{0, 1, 64, wrong.N} {
			refuse(wrong, api.Pauli{N: n})
			refuse(api.Pauli{N: n}, wrong)
		}
		p, e := pauli.Inverse(wrong)
		wantNone(t, "Inverse", p, e)
	}
	for _, n := range sizes() {
		for _, other := range sizes() {
			if n != other {
				refuse(api.Pauli{N: n}, api.Pauli{N: other})
			}
		}
	}
}
