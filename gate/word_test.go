package gate_test

import (
	"math"
	"math/rand"
	"slices"
	"testing"

	"phasor/api"
	"phasor/gate"
)

// P6.6: all pairs of numbers from below the kinds to above them, held against products of whole numbers.
func TestCompose(t *testing.T) {
	found := 0
	for first := api.GateKind(-2); first < 24; first++ {
		for then := api.GateKind(-2); then < 24; then++ {
			wanted := composed(first, then)
			if k, ok := gate.Compose(first, then); k != wanted || ok != (wanted != 0) {
				t.Errorf("%d behind %d: %d %t, not %d", then, first, k, ok, wanted)
			}
			if wanted != 0 {
				found++
			}
		}
	}
	if found < 40 {
		t.Errorf("%d pairs are a kind", found)
	}
}

func composed(first, then api.GateKind) api.GateKind {
	right := func(k api.GateKind) bool { return k >= 1 && k <= 20 }
	if !right(first) || !right(then) || lineOf(first).qubits != lineOf(then).qubits {
		return 0
	}
	p := squareOf(lineOf(then).entries()).times(squareOf(lineOf(first).entries()))
	for _, k := range kindsOf(lineOf(first).qubits) {
		if p.is(squareOf(lineOf(k).entries())) {
			return k
		}
	}
	return 0
}

// P6.6: pairs by hand, and no kinds.
func TestComposeByHand(t *testing.T) {
	for _, c := range []struct{ first, then, wanted string }{
		{"z", "z", "id"}, {"s", "s", "z"}, {"sx", "sx", "x"}, {"sy", "sy", "y"}, {"sxdg", "sxdg", "x"}, {"sydg", "sydg", "y"}, {"z", "s", "sdg"}, {"x", "sx", "sxdg"}, {"y", "sydg", "sy"}, {"id", "sx", "sx"}, {"sy", "id", "sy"},
		{"z", "x", ""}, {"x", "z", ""}, {"x", "y", ""}, {"s", "sx", ""}, {"swap", "swap", ""}, {"iswap", "iswapdg", ""}, {"hh", "hh", ""}, {"ccx", "ccx", ""}, {"id", "cx", ""}, {"cz", "id", ""}, {"x", "ccx", ""},
	} {
		first, _ := gate.Of(c.first)
		then, _ := gate.Of(c.then)
		k, ok := gate.Compose(first, then)
		if gate.Name(k) != c.wanted || ok != (c.wanted != "") {
			t.Errorf("%s behind %s: %s %t", c.then, c.first, gate.Name(k), ok)
		}
	}
	for _, none := range noKinds() {
		for _, pair := range [][2]api.GateKind{{none, none}, {none, api.GateI}, {api.GateI, none}, {none, 0}} {
			if k, ok := gate.Compose(pair[0], pair[1]); k != 0 || ok {
				t.Errorf("%v: %d %t", pair, k, ok)
			}
		}
	}
}

// spelt is a matrix and the first word of it.
type spelt struct {
	m     square
	kinds []api.GateKind
}

// spelling tries all words of up to five kinds, the shortest and of these the least first, with none left out; the matrices that came, in that order.
func spelling() []spelt {
	type key [4]whole
	keyOf := func(s square) key {
		var k key
		for i, z := range s.floats() {
			k[i] = whole{int64(2 * real(z)), int64(2 * imag(z))}
		}
		return k
	}
	level := []spelt{{unit(2), nil}}
	list := slices.Clone(level)
	seen := map[key]bool{keyOf(unit(2)): true}
	for range 5 {
		var next []spelt
		for _, w := range level {
			for _, k := range kindsOf(1) {
				longer := spelt{squareOf(lineOf(k).entries()).times(w.m), append(slices.Clone(w.kinds), k)}
				next = append(next, longer)
				if !seen[keyOf(longer.m)] {
					seen[keyOf(longer.m)] = true
					list = append(list, longer)
				}
			}
		}
		level = next
	}
	return list
}

// P6.10: every matrix that words have, with its shortest and least word.
func TestWord(t *testing.T) {
	list := spelling()
	if len(list) != 96 {
		t.Fatalf("%d matrices: 24 gates times 4 powers of i there are", len(list))
	}
	if most := len(list[95].kinds); most > 4 {
		t.Fatalf("a word of %d: longer ones must be tried", most)
	}
	for _, s := range list {
		m := api.Matrix{N: 2, E: s.m.floats()}
		wantWord(t, m, s.kinds)
		for i, z := range m.E {
			m.E[i] = signed(z)
		}
		wantWord(t, m, s.kinds)
	}
}

func wantWord(t *testing.T, m api.Matrix, wanted []api.GateKind) {
	t.Helper()
	kept := slices.Clone(m.E)
	l, e := gate.Word(m)
	if !slices.Equal(l, wanted) || e != api.OK {
		t.Errorf("%v: %v %d, not %v", m, l, e, wanted)
	}
	for i := range kept {
		if !sameBits(kept[i], m.E[i]) {
			t.Errorf("%v has become %v", kept, m.E)
		}
	}
	for i := range l {
		l[i] = api.GateCSw
	}
	if again, _ := gate.Word(m); !slices.Equal(again, wanted) {
		t.Errorf("%v: %v the second time", m, again)
	}
}

// signed has a sign at each of its noughts.
func signed(z complex128) complex128 {
	part := func(x float64) float64 {
		if x == 0 {
			return math.Copysign(0, -1)
		}
		return x
	}
	return complex(part(real(z)), part(imag(z)))
}

// P6.10: one part that is another is enough to be no word, mostly; what is one is in the list.
func TestWordOfNearOnes(t *testing.T) {
	list := spelling()
	chance := rand.New(rand.NewSource(61))
	parts := []float64{0, 1, -1, 0.5, -0.5}
	for i, s := range list {
		m := api.Matrix{N: 2, E: s.m.floats()}
		at := i % 4
		for _, by := range []complex128{0.5, 1i, -1, 1e-300, complex(0, math.Nextafter(0, 1)), complex(math.NaN(), 0), complex(0, math.NaN()), complex(math.Inf(1), 0), complex(0, math.Inf(-1))} {
			near := api.Matrix{N: 2, E: slices.Clone(m.E)}
			near.E[at] += by
			heldAgainst(t, list, near)
		}
	}
	for range 1000 {
		m := api.Matrix{N: 2, E: make([]complex128, 4)}
		for i := range m.E {
			m.E[i] = complex(parts[chance.Intn(5)], parts[chance.Intn(5)])
		}
		heldAgainst(t, list, m)
	}
}

// heldAgainst looks a matrix up among the words' matrices.
func heldAgainst(t *testing.T, list []spelt, m api.Matrix) {
	t.Helper()
	var wanted []api.GateKind
	errno := api.ErrGate
	for _, s := range list {
		if slices.Equal(s.m.floats(), m.E) {
			wanted, errno = s.kinds, api.OK
		}
	}
	if l, e := gate.Word(m); !slices.Equal(l, wanted) || e != errno {
		t.Errorf("%v: %v %d, not %v %d", m, l, e, wanted, errno)
	}
}

// P6.10: matrices that have no word: of other shapes, and those of the Hadamard gate and of T, whose root of two no float is.
func TestWordRefuses(t *testing.T) {
	r := math.Sqrt(0.5)
	one := []complex128{1, 0, 0, 1}
	for _, m := range []api.Matrix{
		{}, {N: 2}, {N: 2, E: one[:3]}, {N: 2, E: append(slices.Clone(one), 0)}, {N: 1, E: one}, {N: 1, E: one[:1]}, {N: 4, E: one}, {N: 0, E: one}, {N: -2, E: one}, {N: math.MaxInt, E: one}, {N: math.MinInt},
		{N: 2, E: make([]complex128, 4)}, {N: 4, E: make([]complex128, 16)}, {N: 2, E: make([]complex128, 1<<16)},
		{N: 2, E: []complex128{complex(r, 0), complex(r, 0), complex(r, 0), complex(-r, 0)}},
		{N: 2, E: []complex128{1, 0, 0, complex(r, r)}},
		{N: 2, E: []complex128{0.5, 0.5, 0.5, -0.5}},
		{N: 2, E: []complex128{1, 0, 0, 0.5}},
		{N: 2, E: []complex128{-2, 0, 0, 1}},
	} {
		if l, e := gate.Word(m); len(l) != 0 || e != api.ErrGate {
			t.Errorf("%d rows, %d entries: %v %d", m.N, len(m.E), l, e)
		}
	}
	for _, k := range append(kindsOf(2), kindsOf(3)...) {
		m, _ := gate.Matrix(k)
		if l, e := gate.Word(m); len(l) != 0 || e != api.ErrGate {
			t.Errorf("%s: %v %d", lineOf(k).name, l, e)
		}
	}
}
