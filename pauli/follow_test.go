package pauli_test

import (
	"math/rand"
	"slices"
	"testing"

	"phasor/api"
	"phasor/apply"
	"phasor/gate"
	"phasor/matrix"
	"phasor/pauli"
	"phasor/plane"
)

// P13.7: matrices of multiples of 2^-12 come back from their spectrum, and such numbers from what they compose; the adjoint has the conjugate numbers.
func TestSpectrumFollows(t *testing.T) {
	chance := rand.New(rand.NewSource(1351))
	for n := range 4 {
		for range 150 {
			spectrumFollows(t, grid(chance, 1<<(2*n)))
		}
		for _, z := range []complex128{1 + 1i, -1 - 1i, 1 - 1i, 0x1p-12, -0x1p-12 + 1i} {
			spectrumFollows(t, slices.Repeat([]complex128{z}, 1<<(2*n)))
		}
	}
}

func spectrumFollows(t *testing.T, numbers []complex128) {
	t.Helper()
	m, e := pauli.Compose(numbers)
	l, f := pauli.Spectrum(m)
	if e != api.OK || f != api.OK || !slices.EqualFunc(l, numbers, plane.Equal) {
		t.Errorf("Spectrum of Compose: %v, not %v, errors %d, %d", l, numbers, e, f)
	}
	m = api.Matrix{N: m.N, E: numbers}
	l, e = pauli.Spectrum(m)
	again, f := pauli.Compose(l)
	if e != api.OK || f != api.OK || !matrix.Equal(again, m) {
		t.Errorf("Compose of Spectrum: %v, not %v, errors %d, %d", again, m, e, f)
	}
	turned, e := matrix.Adjoint(m)
	other, f := pauli.Spectrum(turned)
	if e != api.OK || f != api.OK || !slices.EqualFunc(other, l, func(x, y complex128) bool { return plane.Equal(x, plane.Conj(y)) }) {
		t.Errorf("Spectrum of the Adjoint: %v, not the conjugates of %v, errors %d, %d", other, l, e, f)
	}
}

// stringsFollow is P13.8 of three strings of one length.
func stringsFollow(t *testing.T, a, b, c api.Pauli) {
	t.Helper()
	want(t, "Mul is associative", mul(t, mul(t, a, b), c), api.OK, mul(t, a, mul(t, b, c)))
	one := api.Pauli{N: a.N}
	want(t, "I on the left", mul(t, one, a), api.OK, a)
	want(t, "I on the right", mul(t, a, one), api.OK, a)
	back, e := pauli.Inverse(a)
	want(t, "there and back", mul(t, a, back), e, one)
	want(t, "back and there", mul(t, back, a), e, one)
	ahead, behind := mul(t, a, b), mul(t, b, a)
	is, e := pauli.Commute(a, b)
	if other, f := pauli.Commute(b, a); other != is || e != api.OK || f != api.OK {
		t.Error("Commute", a, b, is, other, e, f)
	}
	if !is {
		behind.Phase = (behind.Phase + 2) % 4
	}
	want(t, "the other way round", ahead, api.OK, behind)
	text, e := pauli.Print(a)
	again, f := pauli.Parse(text)
	if e != api.OK {
		t.Error("Print", a, e)
	}
	want(t, "Parse of Print", again, f, a)
}

// gatesFollow is P13.8 of two strings and a gate.
func gatesFollow(t *testing.T, a, b api.Pauli, k api.GateKind, qubits []int) {
	t.Helper()
	c, d := through(t, a, k, qubits...), through(t, b, k, qubits...)
	want(t, "Through of Mul", through(t, mul(t, a, b), k, qubits...), api.OK, mul(t, c, d))
	ahead, e := pauli.Commute(a, b)
	behind, f := pauli.Commute(c, d)
	if ahead != behind || e != api.OK || f != api.OK {
		t.Error("what commutes", a, b, k, qubits, ahead, behind, e, f)
	}
	want(t, "through and back", through(t, c, gate.Inverse(k), qubits...), api.OK, a)
	if pauli.Hermitian(a) != pauli.Hermitian(c) || pauli.Check(c) != api.OK {
		t.Error("Through", a, k, qubits, c)
	}
}

func TestStringsFollow(t *testing.T) {
	chance := rand.New(rand.NewSource(1352))
	for n := range 65 {
		for range 40 {
			a, b, c := anyString(chance, n), anyString(chance, n), anyString(chance, n)
			stringsFollow(t, a, b, c)
			if n > 0 {
				k, qubits := anyGate(chance, n)
				gatesFollow(t, a, b, k, qubits)
			}
		}
	}
	for _, a := range all(1) {
		for _, b := range all(1) {
			for _, c := range all(1) {
				stringsFollow(t, a, b, c)
			}
		}
	}
	for _, k := range cliffords() {
		for _, qubits := range choices(2, gate.Arity(k)) {
			for _, a := range all(2) {
				gatesFollow(t, a, anyString(chance, 2), k, qubits)
			}
		}
	}
}

// P13.8: a product acts as its parts do one behind the other, the same to the bit where no nought has a sign, infinities and NaN or not.
func TestActFollows(t *testing.T) {
	chance := rand.New(rand.NewSource(1353))
	for n := range 13 {
		for range 4 + 400>>n {
			a, b, s := anyString(chance, n), anyString(chance, n), whole(chance, 1<<n)
			wantRow(t, "Act of Mul", act(t, mul(t, a, b), s), api.OK, act(t, a, act(t, b, s))...)
		}
	}
}

// P13.4, by layer 10: a gate behind a string is what the string that came through does behind the gate.
func TestThroughIsApplied(t *testing.T) {
	chance := rand.New(rand.NewSource(1354))
	for n := 1; n <= 8; n++ {
		for range 100 {
			k, qubits := anyGate(chance, n)
			p, s := anyString(chance, n), grid(chance, 1<<n)
			first, e := apply.Gate(act(t, p, s), k, qubits)
			moved, f := apply.Gate(s, k, qubits)
			second := act(t, through(t, p, k, qubits...), moved)
			if e != api.OK || f != api.OK || !slices.EqualFunc(first, second, plane.Equal) {
				t.Errorf("%v through %d on %v, errors %d, %d", p, k, qubits, e, f)
			}
		}
	}
}

// FuzzStrings asks every call of any numbers: what is right is told as the slow ones tell it, what is not is refused.
func FuzzStrings(f *testing.F) {
	f.Add(3, uint64(5), uint64(4), 3, uint64(1), uint64(7), 1, 11, 0, 2, "-iXIY", int64(1))
	f.Add(64, uint64(1<<63), uint64(1), 0, uint64(1), uint64(1<<63), 2, 15, 63, 0, "+", int64(2))
	f.Add(-1, uint64(0), uint64(0), 4, uint64(0), uint64(0), -1, 18, -1, 64, "+-X", int64(3))
	f.Fuzz(func(t *testing.T, n int, x, z uint64, phase int, x2, z2 uint64, phase2, kind, q, r int, text string, seed int64) {
		a, b := api.Pauli{N: n, X: x, Z: z, Phase: phase}, api.Pauli{N: n, X: x2, Z: z2, Phase: phase2}
		askAny(t, a, b, api.GateKind(kind), []int{q, r})
		chance := rand.New(rand.NewSource(seed))
		size := int(uint(n) % 65)
		a, b = anyString(chance, size), anyString(chance, size)
		stringsFollow(t, a, b, anyString(chance, size))
		want(t, "Mul", mul(t, a, b), api.OK, slowMul(a, b))
		if size > 0 {
			k, qubits := anyGate(chance, size)
			gatesFollow(t, a, b, k, qubits)
		}
		if p, e := pauli.Parse(text); e == api.OK {
			wantText(t, "Parse", p, e, text)
		} else {
			wantNone(t, text, p, e)
		}
		few := size % 7
		p, s := anyString(chance, few), odd(chance, 1<<few)
		wantRow(t, "Act", act(t, p, s), api.OK, slowAct(p, s)...)
		spectrumFollows(t, grid(chance, 1<<(2*(size%4))))
	})
}

// askAny asks of strings that may not be right, and of a gate that may be none.
func askAny(t *testing.T, a, b api.Pauli, k api.GateKind, qubits []int) {
	t.Helper()
	right := pauli.Check(a) == api.OK
	both, e := pauli.Mul(a, b)
	if right && pauli.Check(b) == api.OK {
		want(t, "Mul", both, e, slowMul(a, b))
	} else {
		wantNone(t, "Mul", both, e)
	}
	if text, e := pauli.Print(a); right != (e == api.OK) || right != (text != "") {
		t.Error("Print", a, text, e)
	}
	if letter := pauli.Letter(a, qubits[0]); letter != 0 && (!right || letter != lettersOf(a)[qubits[0]]) {
		t.Error("Letter", a, qubits[0], letter)
	}
	if len(qubits) > gate.Arity(k) {
		qubits = qubits[:gate.Arity(k)]
	}
	behind, e := pauli.Through(a, k, qubits)
	if right && gate.Clifford(k) && gate.Check(k, qubits, a.N) == api.OK {
		gatesFollow(t, a, a, k, qubits)
	} else {
		wantNone(t, "Through", behind, e)
	}
}
