package pauli_test

import (
	"math/rand"
	"slices"
	"testing"

	"phasor/api"
	"phasor/gate"
	"phasor/matrix"
	"phasor/pauli"
)

// placed is a gate's matrix among n qubits, and its adjoint.
func placed(t *testing.T, k api.GateKind, qubits []int, n int) (api.Matrix, api.Matrix) {
	t.Helper()
	m, e := gate.Matrix(k)
	u, f := matrix.Place(m, qubits, n)
	back, g := matrix.Adjoint(u)
	if e != api.OK || f != api.OK || g != api.OK {
		t.Fatal(k, qubits, n, e, f, g)
	}
	return u, back
}

// P13.4: what comes is U * p * U adjoint, of each Clifford gate on each choice of qubits: of one and of two qubits every string, of three all letters.
func TestThroughIsTheMatrices(t *testing.T) {
	chance := rand.New(rand.NewSource(1321))
	for n := 1; n <= 3; n++ {
		for _, k := range cliffords() {
			for _, qubits := range choices(n, gate.Arity(k)) {
				u, back := placed(t, k, qubits, n)
				for i, p := range all(n) {
					if n == 3 && i >= 64 {
						break
					}
					if n == 3 {
						p.Phase = chance.Intn(4)
					}
					behind := through(t, p, k, qubits...)
					if !equalMatrix(stringMatrix(behind), plainProduct(u, stringMatrix(p), back)) {
						t.Errorf("%v through %d on %v: %v", p, k, qubits, behind)
					}
				}
			}
		}
	}
}

// P13.4: by hand: the images of all letters through gates of one qubit, and some of two.
func TestThroughByHand(t *testing.T) {
	for _, c := range []struct {
		k      api.GateKind
		images [3]string
	}{
		{api.GateI, [3]string{"+X", "+Y", "+Z"}}, {api.GateX, [3]string{"+X", "-Y", "-Z"}}, {api.GateY, [3]string{"-X", "+Y", "-Z"}}, {api.GateZ, [3]string{"-X", "-Y", "+Z"}},
		{api.GateS, [3]string{"+Y", "-X", "+Z"}}, {api.GateSdg, [3]string{"-Y", "+X", "+Z"}}, {api.GateV, [3]string{"+X", "+Z", "-Y"}}, {api.GateVdg, [3]string{"+X", "-Z", "+Y"}},
		{api.GateW, [3]string{"-Z", "+Y", "+X"}}, {api.GateWdg, [3]string{"+Z", "+Y", "-X"}},
	} {
		for i, letter := range []string{"X", "Y", "Z"} {
			wantText(t, letter, through(t, of(0, letter), c.k, 0), api.OK, c.images[i])
		}
	}
	for _, c := range []struct {
		p      string
		k      api.GateKind
		qubits []int
		wanted string
	}{
		{"+XI", api.GateCX, []int{1, 0}, "+XI"}, {"+IX", api.GateCX, []int{1, 0}, "+XX"}, {"+ZI", api.GateCX, []int{1, 0}, "+ZZ"},
		{"+YY", api.GateCX, []int{0, 1}, "-XZ"}, {"+XZ", api.GateCX, []int{0, 1}, "-YY"}, {"-iXZ", api.GateCX, []int{0, 1}, "+iYY"},
		{"+XX", api.GateCZ, []int{0, 1}, "+YY"}, {"+XY", api.GateCZ, []int{1, 0}, "-YX"}, {"+XX", api.GateCY, []int{0, 1}, "-YZ"},
		{"+XY", api.GateSwap, []int{0, 1}, "+YX"}, {"+XX", api.GateISw, []int{0, 1}, "+XX"}, {"+XY", api.GateISw, []int{0, 1}, "+YX"}, {"+XI", api.GateISwd, []int{1, 0}, "-ZY"},
		{"+YY", api.GateHH, []int{0, 1}, "+YY"}, {"+XYZ", api.GateHH, []int{2, 1}, "-XYX"}, {"+XIZ", api.GateCX, []int{0, 2}, "-YIY"},
	} {
		wantText(t, c.p, through(t, read(t, c.p), c.k, c.qubits...), api.OK, c.wanted)
	}
}

// P13.4: among up to 64 qubits a gate does to its own what it does to them alone, and nothing to the others.
func TestThroughOfLongStrings(t *testing.T) {
	chance := rand.New(rand.NewSource(1322))
	for n := 1; n <= 64; n++ {
		for _, k := range cliffords() {
			if gate.Arity(k) > n {
				continue
			}
			for _, row := range [][]int{chance.Perm(n), {n - 1, 0}, {0, n - 1}} {
				qubits, p := row[:gate.Arity(k)], anyString(chance, n)
				own := make([]byte, len(qubits))
				for i, q := range qubits {
					own[i] = lettersOf(p)[q]
				}
				small := through(t, of(p.Phase, string(own)), k, []int{0, 1}[:len(qubits)]...)
				wide := []byte(lettersOf(p))
				for i, q := range qubits {
					wide[q] = lettersOf(small)[i]
				}
				want(t, "Through", through(t, p, k, qubits...), api.OK, of(small.Phase, string(wide)))
			}
		}
	}
}

// P13.4: strings that are not right, gates that are none or no Clifford gates, and qubits that a gate may not have.
func TestThroughRefuses(t *testing.T) {
	refuse := func(p api.Pauli, k api.GateKind, qubits ...int) {
		t.Helper()
		behind, e := pauli.Through(p, k, qubits)
		wantNone(t, "Through", behind, e)
	}
	for _, wrong := range wrongs() {
		refuse(wrong, api.GateX, 0)
		refuse(wrong, api.GateCX, 0, 1)
		refuse(wrong, api.GateCCX, 0, 1, 2)
		refuse(wrong, 0)
	}
	p := of(0, "XYZI")
	for _, k := range []api.GateKind{api.GateCCX, api.GateCCZ, api.GateCSw} {
		refuse(p, k, 0, 1, 2)
		refuse(api.Pauli{N: 4}, k, 1, 2, 3)
	}
	for _, k := range []api.GateKind{0, -1, 21, 22, 64, 1 << 32, 1<<32 + 2, least, great} {
		for many := range 4 {
			refuse(p, k, []int{0, 1, 2}[:many]...)
		}
	}
	for _, k := range cliffords() {
		for many := range 5 {
			if many != gate.Arity(k) {
				refuse(p, k, []int{0, 1, 2, 3}[:many]...)
			}
		}
		for _, q := range []int{-1, 4, 5, 63, 64, 65, 128, least, great, 1 << 32} {
			refuse(p, k, []int{q, 1}[:gate.Arity(k)]...)
			refuse(p, k, []int{q, q}[:gate.Arity(k)]...)
			if gate.Arity(k) == 2 {
				refuse(p, k, 1, q)
				refuse(p, k, 2, 2)
			}
		}
		refuse(api.Pauli{}, k, []int{0, 1}[:gate.Arity(k)]...)
	}
	long := api.Pauli{N: 64}
	refuse(long, api.GateX, 64)
	if _, e := pauli.Through(long, api.GateX, []int{63}); e != api.OK {
		t.Error(e)
	}
}

// R3: the qubits that are handed in stay as they are.
func TestThroughKeepsQubits(t *testing.T) {
	qubits := []int{2, 0}
	through(t, of(0, "YXZ"), api.GateISw, qubits...)
	if !slices.Equal(qubits, []int{2, 0}) {
		t.Error(qubits)
	}
}
