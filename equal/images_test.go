package equal_test

import (
	"math/rand"
	"slices"
	"testing"

	"phasor/api"
	"phasor/equal"
	"phasor/gate"
	"phasor/tableau"
)

// P21.3: by hand: qubit by qubit, X ahead of Z; gates one behind the other; barriers do nothing.
func TestImagesByHand(t *testing.T) {
	for _, c := range []struct {
		qubits int
		text   string
		wanted string
	}{
		{0, "", ""},
		{1, "", "+X +Z"},
		{1, "barrier 0", "+X +Z"},
		{3, "", "+XII +ZII +IXI +IZI +IIX +IIZ"},
		{1, "x 0", "+X -Z"},
		{1, "y 0", "-X -Z"},
		{1, "z 0", "-X +Z"},
		{1, "s 0", "+Y +Z"},
		{1, "sdg 0", "-Y +Z"},
		{1, "sx 0", "+X -Y"},
		{1, "sxdg 0", "+X +Y"},
		{1, "sy 0", "-Z +X"},
		{1, "sydg 0", "+Z -X"},
		{1, "s 0; sx 0", "+Z -Y"},
		{1, "sx 0; s 0", "+Y +X"},
		{1, "sx 0; barrier 0; s 0; barrier 0", "+Y +X"},
		{2, "cx 1 0", "+XI +ZZ +XX +IZ"},
		{2, "cz 0 1", "+XZ +ZI +ZX +IZ"},
		{2, "swap 0 1", "+IX +IZ +XI +ZI"},
		{2, "hh 0 1", "+ZI +XI +IZ +IX"},
		{2, "cx 0 1; hh 0 1; cx 0 1", "+IZ +XX +ZZ +XI"},
		{3, "swap 0 1; swap 1 2", "+IIX +IIZ +XII +ZII +IXI +IZI"},
		{3, "cx 0 1; cx 1 2", "+XXX +ZII +IXX +ZZI +IIX +IZZ"},
	} {
		wantImages(t, gates(t, c.qubits, c.text), c.wanted)
	}
}

// P21.3: each Clifford gate, and circuits of up to three qubits at chance: what the circuit's matrix makes of the string's.
func TestImagesAreConjugates(t *testing.T) {
	chance := rand.New(rand.NewSource(2104))
	var l []api.Circuit
	for _, k := range gate.Kinds() {
		if gate.Clifford(k) {
			l = append(l, of(3, 0, do(k, []int{0, 1}[:gate.Arity(k)]...)), of(3, 0, do(k, []int{2, 0}[:gate.Arity(k)]...)))
		}
	}
	for range 600 {
		l = append(l, wish{qubits: chance.Intn(4), bits: chance.Intn(2), ops: chance.Intn(16), halves: 10, clifford: true}.drawn(chance))
	}
	for _, c := range l {
		u, from, to := circuitMatrix(c), firsts(c.Qubits), images.answer(t, c, c).strings
		if len(to) != len(from) {
			t.Fatalf("%v: %v", c, to)
		}
		for i := range from {
			if to[i].N != c.Qubits || !slowImage(u, from[i], to[i]) {
				t.Fatalf("%v: %v becomes %v", c, from[i], to[i])
			}
		}
	}
}

// tableauImages are those of layer 14: the destabilizers of |0> begin as X at each qubit, its stabilizers as Z there.
func tableauImages(c api.Circuit) []api.Pauli {
	x, _ := tableau.New(c.Qubits)
	for _, op := range c.Ops {
		if op.Kind == api.OpGate {
			x, _ = tableau.Gate(x, op.Gate, op.Qubits)
		}
	}
	var l []api.Pauli
	for q := range c.Qubits {
		l = append(l, x.Destab[q], x.Stab[q])
	}
	return l
}

// P21.3: of up to 64 qubits, against layer 14, which carries strings in its own way; whether the images of two are one, both ways round.
func TestImagesOfMany(t *testing.T) {
	chance := rand.New(rand.NewSource(2105))
	seen := map[bool]int{}
	for i := range 600 {
		w := wish{qubits: 1 + chance.Intn(8), ops: chance.Intn(30), halves: 50, clifford: true}
		if i%10 == 0 {
			w.qubits, w.ops = 50+chance.Intn(15), 300
		}
		a := w.drawn(chance)
		b := kin(chance, a)
		ofA, ofB := tableauImages(a), tableauImages(b)
		images.want(t, a, b, told{strings: ofA})
		same := slices.Equal(ofA, ofB)
		clifford.wantYes(t, a, b, same)
		clifford.wantYes(t, b, a, same)
		seen[same]++
	}
	if seen[true] < 100 || seen[false] < 100 {
		t.Error("too few:", seen)
	}
}

// P21.3: by hand: factors do not count, signs of images do.
func TestCliffordByHand(t *testing.T) {
	for _, c := range []struct {
		qubits int
		a, b   string
		wanted bool
	}{
		{0, "", "", true}, {1, "", "", true}, {1, "", "id 0", true},
		{1, "x 0; z 0", "z 0; x 0", true}, {1, "x 0; s 0; x 0; s 0", "", true}, {1, "x 0; z 0; x 0; z 0", "", true},
		{1, "x 0", "", false}, {1, "z 0", "", false}, {1, "x 0", "z 0", false}, {1, "y 0", "x 0", false}, {1, "s 0", "sdg 0", false}, {1, "s 0; z 0", "sdg 0", true},
		{1, "sx 0", "sxdg 0", false}, {1, "sx 0; sx 0; sx 0", "sxdg 0", true}, {1, "sx 0; s 0; sx 0; s 0; sx 0; s 0", "", true},
		{2, "cx 0 1", "cx 1 0", false}, {2, "cx 0 1; cx 1 0; cx 0 1", "swap 0 1", true}, {2, "hh 0 1; cz 0 1; hh 0 1", "hh 0 1; cz 1 0; hh 1 0", true}, {2, "hh 0 1; cx 0 1; hh 0 1", "cx 1 0", true}, {2, "iswap 0 1", "swap 0 1", false}, {2, "iswap 0 1", "swap 0 1; cz 0 1; s 0; s 1", true},
		{2, "barrier 0; x 1; barrier 1 0", "x 1", true},
		{64, "z 63", "", false}, {64, "x 63", "", false}, {64, "cx 63 0", "cx 62 0", false}, {64, "cx 63 0; cx 62 0", "cx 62 0; cx 63 0", true}, {64, "cz 63 0", "cz 0 63", true},
	} {
		clifford.wantYes(t, gates(t, c.qubits, c.a), gates(t, c.qubits, c.b), c.wanted)
		clifford.wantYes(t, gates(t, c.qubits, c.b), gates(t, c.qubits, c.a), c.wanted)
	}
}

// P21.3: each of 128 strings alone can part two circuits of 64 qubits: Z at a qubit turns the sign of X there, X that of Z.
func TestEachStringCounts(t *testing.T) {
	for q := range 64 {
		for _, k := range []api.GateKind{api.GateX, api.GateZ} {
			clifford.wantYes(t, of(64, 0, do(k, q)), of(64, 0), false)
			clifford.wantYes(t, of(64, 0, do(k, q)), of(64, 0, do(k, q), barrier(q)), true)
		}
	}
}

// P21.3: as many operations and qubits as there may be.
func TestImagesOfMost(t *testing.T) {
	c := of(64, 64, times(2048, do(api.GateHH, 0, 63), do(api.GateCX, 63, 0))...)
	images.want(t, c, c, told{strings: tableauImages(c)})
	clifford.wantYes(t, c, of(64, 0, append([]api.Op{}, c.Ops[:4096-6]...)...), slices.Equal(tableauImages(c), tableauImages(of(64, 0, c.Ops[:4096-6]...))))
}

// R3: images are the caller's own: what is written into them is seen nowhere else.
func TestImagesAreNew(t *testing.T) {
	c := gates(t, 3, "cx 0 1; hh 1 2; s 0")
	wanted := tableauImages(c)
	l, _ := equal.Images(c)
	other, _ := equal.Images(c)
	clear(l)
	_ = append(l, api.Pauli{N: 9})
	if !slices.Equal(other, wanted) {
		t.Error("two answers share memory")
	}
	images.want(t, c, c, told{strings: wanted})
	if !sameCircuit(c, gates(t, 3, "cx 0 1; hh 1 2; s 0")) {
		t.Error("the circuit was changed")
	}
}
