package expect_test

import (
	"encoding/binary"
	"math"
	"math/rand"
	"testing"

	"phasor/api"
	"phasor/apply"
	"phasor/circuit"
	"phasor/expect"
	"phasor/gate"
	"phasor/pauli"
	"phasor/plane"
	"phasor/state"
	"phasor/tableau"
)

// weightOf is layer 9's, of an exact state whose Weight is at most 1.
func weightOf(t *testing.T, s []complex128) float64 {
	t.Helper()
	w, e := state.Weight(s)
	if e != api.OK || w > 1 || state.Halves(s) < 0 {
		t.Fatalf("no exact state of a weight of at most 1: %v", s)
	}
	return w
}

// P22.8: of at most 8 halves and at most 8 terms of whole weights: the mean is Energy, and the mean square times the Weight is at least its square.
func TestSpreadAndEnergy(t *testing.T) {
	chance := rand.New(rand.NewSource(2212))
	sharp := 0
	for n := range 13 {
		for range 10 + 400>>n {
			s := exact(chance, n, chance.Intn(9))
			w := weightOf(t, s)
			var terms []api.Term
			for range chance.Intn(9) {
				terms = append(terms, api.Term{Coef: float64(chance.Intn(17) - 8), P: hermitian(chance, n)})
			}
			x := energy.answer(t, s, terms...).x
			both := spread.answer(t, s, terms...)
			if both.x != x || both.y*w < x*x {
				t.Fatalf("%v, %v: energy %v, spread %v, %v", s, terms, x, both.x, both.y)
			}
			if both.y*w == x*x && x != 0 {
				sharp++
			}
		}
	}
	if sharp < 100 {
		t.Error("too few are sharp:", sharp)
	}
}

// P22.8: of at most MaxHalves halves: a Hermitian string's value is real, at most the Weight in magnitude, and just what whole numbers give.
func TestValuesAreExact(t *testing.T) {
	chance := rand.New(rand.NewSource(2213))
	ends := 0
	for n := range 13 {
		for range 10 + 800>>n {
			s, p := exact(chance, n, chance.Intn(api.MaxHalves+1)), hermitian(chance, n)
			w, z := weightOf(t, s), valueOf(t, s, p)
			re, im := exactValue(s, p)
			if imag(z) != 0 || im != 0 || real(z) < -w || real(z) > w || real(z) != math.Ldexp(float64(re), -48) {
				t.Fatalf("%v in %v of weight %v: %v", p, s, w, z)
			}
			if real(z) == w || real(z) == -w {
				ends++
			}
		}
	}
	if ends < 100 {
		t.Error("too few at the ends:", ends)
	}
}

// P22.8: the matrix that comes again of a table is that of the state, and if the state has at most 12 halves, its purity is the Weight's square.
func TestTablesAndBack(t *testing.T) {
	chance := rand.New(rand.NewSource(2214))
	for n := range api.MaxTable + 1 {
		for i := range 20 + 400>>(2*n) {
			halves := chance.Intn(api.MaxHalves + 1)
			if i%2 == 0 {
				halves = chance.Intn(13)
			}
			s := exact(chance, n, halves)
			w := weightOf(t, s)
			l := table.answer(t, s).floats
			m := rebuild.answer(t, l)
			for j, z := range m.numbers {
				r, c := j/m.rows, j%m.rows
				if wanted := plane.Clean(plane.Mul(s[r], plane.Conj(s[c]))); !sameNumber(z, wanted) {
					t.Fatalf("%v: at %d, %d %v, not %v", s, r, c, z, wanted)
				}
			}
			if halves <= 12 {
				purity.want(t, l, told{x: w * w})
			}
		}
	}
}

// P22.8: a string's value behind a circuit is that of the string carried back, ahead of it, as long as both halve no more than MaxHalves times.
func TestBackInsteadOfForth(t *testing.T) {
	chance := rand.New(rand.NewSource(2215))
	seen := 0
	for n := range 13 {
		for range 6 + 200>>n {
			halves := chance.Intn(api.MaxHalves + 1)
			s := exact(chance, n, halves)
			weightOf(t, s)
			c := wish{qubits: n, ops: chance.Intn(50), halves: api.MaxHalves - halves, clifford: true}.drawn(chance)
			behind, _, e := apply.Ops(s, c.Ops)
			if e != api.OK {
				t.Fatal(e)
			}
			p := anyString(chance, n)
			z := valueOf(t, behind, p)
			if y := valueOf(t, s, back.answer(t, c, p)); z != y {
				t.Fatalf("%v behind %v: %v; carried back, in %v: %v", p, c, z, s, y)
			}
			if circuit.Halves(c) > 0 && z != 0 {
				seen++
			}
		}
	}
	if seen < 100 {
		t.Error("too few values that are not 0 behind gates that halve:", seen)
	}
}

// P22.8: forth of back is the string, and back of forth.
func TestForthOfBack(t *testing.T) {
	chance := rand.New(rand.NewSource(2216))
	for n := range 65 {
		for range 4 {
			c, p := wish{qubits: n, ops: chance.Intn(120), halves: great, clifford: true}.drawn(chance), anyString(chance, n)
			forth.want(t, c, back.answer(t, c, p), p)
			back.want(t, c, forth.answer(t, c, p), p)
		}
	}
}

// P22.8: a string that stabilizes has the value 1, one whose negative does -1, in the state that the same gates make; Tableau says the same, 0 of all others, too.
func TestStabilizersHaveValues(t *testing.T) {
	chance := rand.New(rand.NewSource(2217))
	seen := map[int]int{}
	for n := range 13 {
		for range 4 + 60>>n {
			c := wish{qubits: n, ops: chance.Intn(40), halves: api.MaxHalves, clifford: true}.drawn(chance)
			x, _ := tableau.New(n)
			for _, op := range c.Ops {
				if op.Kind == api.OpGate {
					x, _ = tableau.Gate(x, op.Gate, op.Qubits)
				}
			}
			basis, _ := state.Basis(n, 0)
			s, _, _ := apply.Ops(basis, c.Ops)
			for range 6 {
				p := hermitian(chance, n)
				if chance.Intn(2) == 0 {
					p = turnedString(someProduct(chance, x), 2*chance.Intn(2))
				}
				v, e := expect.Tableau(x, p)
				if z := valueOf(t, s, p); e != api.OK || z != complex(float64(v), 0) {
					t.Fatalf("%v behind %v: %v, and of the tableau %d, error %d", p, c, z, v, e)
				}
				seen[v]++
			}
			for _, p := range x.Stab {
				wantTableau(t, x, p, 1, api.OK)
				wantTableau(t, x, turnedString(p, 2), -1, api.OK)
				if valueOf(t, s, p) != 1 || valueOf(t, s, turnedString(p, 2)) != -1 {
					t.Fatalf("%v stabilizes, behind %v", p, c)
				}
			}
		}
	}
	for v := -1; v < 2; v++ {
		if seen[v] < 50 {
			t.Error(v, "came up too seldom:", seen)
		}
	}
}

// FuzzExpect holds the calls against the chapter written a second time, on any numbers.
func FuzzExpect(f *testing.F) {
	f.Add([]byte{0, 0, 0, 0, 0, 0, 0xe0, 0x3f}, 2, uint64(3), uint64(1), 1, uint64(0), uint64(2), 2, 0.5, -0.25, []byte{11, 0, 1})
	f.Add([]byte{}, 0, uint64(0), uint64(0), 0, uint64(0), uint64(0), 0, 1.0, math.Inf(1), []byte{})
	f.Add([]byte{0, 0, 0, 0, 0, 0, 0xf8, 0x7f}, 5, uint64(31), uint64(1), 4, uint64(32), uint64(2), 2, math.NaN(), 1.0, []byte{17, 4, 0, 19, 1, 2})
	f.Add([]byte{1}, 7, uint64(127), uint64(64), 0, uint64(1), uint64(2), 3, 8.0, -8.0, []byte{8, 6, 0, 200, 1, 1})
	f.Fuzz(func(t *testing.T, data []byte, n int, x, z uint64, phase int, x2, z2 uint64, phase2 int, coef, coef2 float64, ops []byte) {
		s := stateOf(data, int(uint(n)%9))
		terms := []api.Term{{Coef: coef, P: api.Pauli{N: n, X: x, Z: z, Phase: phase}}, {Coef: coef2, P: api.Pauli{N: n, X: x2, Z: z2, Phase: phase2}}}
		fuzzSums(t, s, terms)
		fuzzTables(t, s)
		fuzzCarriers(t, circuitOf(ops, n), terms[0].P)
	})
}

// stateOf is a state of n qubits whose parts are these bytes, over and over.
func stateOf(data []byte, n int) []complex128 {
	s, at := make([]complex128, 1<<n), 0
	part := func() float64 {
		var b [8]byte
		for i := range b {
			if len(data) > 0 {
				b[i] = data[at%len(data)]
				at++
			}
		}
		return math.Float64frombits(binary.LittleEndian.Uint64(b[:]))
	}
	for k := range s {
		s[k] = complex(part(), part())
	}
	return s
}

func fuzzSums(t *testing.T, s []complex128, terms []api.Term) {
	fits := func(p api.Pauli) bool { return pauli.Check(p) == api.OK && len(s) == 1<<p.N }
	suits := true
	for _, term := range terms {
		suits = suits && fits(term.P) && term.P.Phase%2 == 0 && !math.IsInf(term.Coef, 0) && term.Coef == term.Coef
	}
	if fits(terms[0].P) {
		wantValue(t, s, terms[0].P, slowValue(s, terms[0].P))
	} else {
		value.refuses(t, "a string that does not fit", s, terms, api.ErrPauli)
	}
	for _, f := range sums() {
		if suits {
			f.want(t, s, terms, slowSums(f, s, terms))
		} else {
			f.refuses(t, "terms that do not fit", s, terms, api.ErrExpect)
		}
	}
}

func fuzzTables(t *testing.T, s []complex128) {
	if len(s) > 32 {
		table.refuses(t, "too many qubits", s, nil, api.ErrExpect)
		return
	}
	l := slowTable(s)
	table.want(t, s, nil, told{floats: l})
	rebuild.want(t, l, slowRebuild(l))
	purity.want(t, l, told{x: slowPurity(l)})
	if len(s) > 1 {
		wantNoTable(t, l[1:])
	}
}

// circuitOf is one of at most 20 operations of three bytes each, or one that may not be: the first says what, the others are qubits.
func circuitOf(l []byte, qubits int) api.Circuit {
	c := of(qubits, 1)
	for at := 0; at+3 <= len(l) && len(c.Ops) < 20; at += 3 {
		what, p, q := l[at], int(l[at+1]), int(l[at+2])
		switch {
		case what == 200:
			c.Ops = append(c.Ops, measure(p, 0))
		case what > 100:
			c.Ops = append(c.Ops, barrier(p))
		default:
			k := api.GateKind(what)
			c.Ops = append(c.Ops, do(k, []int{p, q, 0}[:gate.Arity(k)]...))
		}
	}
	return c
}

func fuzzCarriers(t *testing.T, c api.Circuit, p api.Pauli) {
	_, e := circuit.Check(c)
	switch {
	case e != api.OK:
	case !circuit.Unitary(c) || !circuit.Clifford(c):
		e = api.ErrExpect
	case pauli.Check(p) != api.OK || p.N != c.Qubits:
		e = api.ErrPauli
	default:
		forth.want(t, c, p, slowForth(c, p))
		back.want(t, c, p, slowBack(c, p))
		return
	}
	for _, f := range carriers() {
		f.refuses(t, "what does not fit", c, p, e)
	}
}
