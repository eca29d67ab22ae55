package density_test

import (
	"encoding/binary"
	"math"
	"math/rand"
	"testing"

	"phasor/api"
	"phasor/apply"
	"phasor/gate"
	"phasor/matrix"
	"phasor/odds"
	"phasor/pauli"
	"phasor/state"
	"phasor/tableau"
)

// placed are matrices of one qubit, laid on a qubit of n.
func placed(n, qubit int, l ...api.Matrix) []api.Matrix {
	var wide []api.Matrix
	for _, m := range l {
		one, _ := matrix.Place(m, []int{qubit}, n)
		wide = append(wide, one)
	}
	return wide
}

// weightOf is layer 9's, of an exact state of at most so many halves whose Weight is at most 1.
func weightOf(t *testing.T, s []complex128, halves int) float64 {
	t.Helper()
	w, e := state.Weight(s)
	if e != api.OK || w > 1 || !state.Exact(s, halves) {
		t.Fatalf("no exact state of %d halves and a weight of at most 1: %v", halves, s)
	}
	return w
}

// exactKept is what Keep of From answers, in whole numbers: nothing is rounded.
func exactKept(s []complex128, qubits []int) api.Matrix {
	others := rest(qubits, qubitsOf(len(s)))
	side := 1 << len(qubits)
	re, im := make([]int64, side*side), make([]int64, side*side)
	for a, x := range s {
		for b, y := range s {
			if indexAt(a, others) == indexAt(b, others) {
				p, q, r, u := whole(real(x)), whole(imag(x)), whole(real(y)), whole(imag(y))
				to := side*indexAt(a, qubits) + indexAt(b, qubits)
				re[to] += p*r + q*u
				im[to] += q*r - p*u
			}
		}
	}
	m := blank(side)
	for k := range m.E {
		m.E[k] = complex(math.Ldexp(float64(re[k]), -24), math.Ldexp(float64(im[k]), -24))
	}
	return m
}

// whole is a part of an exact number of at most 12 halves, as a whole number of 2^-12.
func whole(x float64) int64 { return int64(x * (1 << 12)) }

// P23.5: From is Hermitian; Keep is what whole numbers give, and its Weights are layer 11's Marginal; Keep by some and by all others have one Purity, which is that of all parts of one state.
func TestKeptPartsAreExact(t *testing.T) {
	chance := rand.New(rand.NewSource(2317))
	for n := range 7 {
		for range 60 + 300>>n {
			halves := chance.Intn(13)
			s, qubits := exact(chance, n, halves), somePart(chance, n)
			weightOf(t, s, halves)
			m := from.answer(t, given{s: s}).m
			hermitian.want(t, given{m: m}, told{is: true})
			kept := keep.answer(t, given{m: m, qubits: qubits}).m
			if wanted := exactKept(s, qubits); !equal(kept, wanted) {
				t.Fatalf("Keep of %v by %v: %v, not %v", s, qubits, kept, wanted)
			}
			hermitian.want(t, given{m: kept}, told{is: true})
			others := keep.answer(t, given{m: m, qubits: rest(qubits, n)}).m
			purity.want(t, given{m: kept}, purity.answer(t, given{m: others}))
			l, e := odds.Marginal(s, qubits)
			if e != api.OK {
				t.Fatal(e)
			}
			weights.want(t, given{m: kept}, told{floats: l})
		}
	}
}

// P23.5: what happens to qubits that are not kept is not seen in those that are (by ==: a nought's sign may turn), and From of the state behind a gate is the gate of From.
func TestGatesOnOthers(t *testing.T) {
	chance := rand.New(rand.NewSource(2318))
	apart := 0
	for n := 1; n < 7; n++ {
		for range 100 + 400>>n {
			halves := chance.Intn(13)
			kind, qubits := anyGate(chance, n, halves < 12)
			s := exact(chance, n, halves)
			weightOf(t, s, halves)
			m := from.answer(t, given{s: s}).m
			turned := gateOn.answer(t, given{m: m, kind: kind, qubits: qubits}).m
			behind, _ := apply.Gate(s, kind, qubits)
			if wanted := from.answer(t, given{s: behind}).m; !equal(turned, wanted) {
				t.Fatalf("gate %d on %v: %v, not %v", kind, qubits, turned, wanted)
			}
			left := rest(qubits, n)
			chance.Shuffle(len(left), func(i, j int) { left[i], left[j] = left[j], left[i] })
			left = left[:chance.Intn(len(left)+1)]
			a, b := keep.answer(t, given{m: m, qubits: left}).m, keep.answer(t, given{m: turned, qubits: left}).m
			if !equal(a, b) {
				t.Fatalf("gate %d on %v is seen at %v: %v, ahead %v", kind, qubits, left, b, a)
			}
			if !equal(m, turned) && len(left) > 0 {
				apart++
			}
		}
	}
	if apart < 200 {
		t.Error("too few gates that do something:", apart)
	}
}

// P23.5: of at most 12 halves a gate that does not halve, and then another, and so on: what is kept stays.
func TestManyGatesOnOthers(t *testing.T) {
	chance := rand.New(rand.NewSource(2319))
	for range 100 {
		s := exact(chance, 5, 6)
		m := from.answer(t, given{s: s}).m
		kept := keep.answer(t, given{m: m, qubits: []int{4, 1}}).m
		halves := 6
		for range 20 {
			kind, qubits := anyGate(chance, 3, halves > 0)
			for i, q := range qubits {
				qubits[i] = [3]int{0, 2, 3}[q]
			}
			if gate.Halving(kind) {
				halves--
			}
			m = gateOn.answer(t, given{m: m, kind: kind, qubits: qubits}).m
		}
		if behind := keep.answer(t, given{m: m, qubits: []int{4, 1}}).m; !equal(behind, kept) {
			t.Fatalf("%v: %v, ahead %v", s, behind, kept)
		}
	}
}

// P23.5: a state is one of two parts just if what is kept has the Weight's square as its Purity; its own Fidelity is that square, too.
func TestProductsArePure(t *testing.T) {
	chance := rand.New(rand.NewSource(2320))
	seen := map[bool]int{}
	for n := range 7 {
		for i := range 100 + 400>>n {
			halves, qubits := chance.Intn(13), somePart(chance, n)
			s := exact(chance, n, halves)
			if i%2 == 0 {
				s = twoParts(chance, qubits, n, halves)
			}
			w := weightOf(t, s, halves)
			m := from.answer(t, given{s: s}).m
			kept := keep.answer(t, given{m: m, qubits: qubits}).m
			is := product.answer(t, given{s: s, qubits: qubits}).is
			if pure := purity.answer(t, given{m: kept}).x == w*w; is != pure || i%2 == 0 && !is {
				t.Fatalf("%v by %v: product %v, pure %v", s, qubits, is, pure)
			}
			if z := fidelity.answer(t, given{m: m, s: s}).z; z != complex(w*w, 0) {
				t.Fatalf("%v: fidelity %v, weight %v", s, z, w)
			}
			if w > 0 && len(qubits) > 0 && len(qubits) < n {
				seen[is]++
			}
		}
	}
	if seen[true] < 100 || seen[false] < 100 {
		t.Error("too few of one kind:", seen)
	}
}

// P23.5: by a gate's matrix Kraus does what the gate does.
func TestKrausIsGate(t *testing.T) {
	chance := rand.New(rand.NewSource(2321))
	for n := 1; n < 4; n++ {
		for _, kind := range gate.Kinds() {
			for range 30 {
				if gate.Arity(kind) > n {
					continue
				}
				qubits := chance.Perm(n)[:gate.Arity(kind)]
				halves := chance.Intn(13)
				s := exact(chance, n, halves)
				weightOf(t, s, halves)
				small, _ := gate.Matrix(kind)
				wide, _ := matrix.Place(small, qubits, n)
				m := from.answer(t, given{s: s}).m
				a, b := kraus.answer(t, given{m: m, l: []api.Matrix{wide}}).m, gateOn.answer(t, given{m: m, kind: kind, qubits: qubits}).m
				if !equal(a, b) {
					t.Fatalf("gate %d on %v: %v, by Kraus %v", kind, qubits, b, a)
				}
			}
		}
	}
}

// P23.5: Keep of all qubits, in order, is the matrix itself, to the bit; of none its trace.
func TestKeepOfAllAndNone(t *testing.T) {
	chance := rand.New(rand.NewSource(2322))
	for n := range 7 {
		for _, draw := range draws() {
			m := anyMatrix(chance, n, draw)
			keep.want(t, given{m: m, qubits: rest(nil, n)}, told{m: m})
			z, _ := matrix.Trace(m)
			keep.want(t, given{m: m}, told{m: rows(z)})
		}
	}
}

// P23.5, layer 14: of what Clifford gates make the Purity of a part is a half for each bit that it shares with the others.
func TestPurityAndCut(t *testing.T) {
	chance := rand.New(rand.NewSource(2323))
	for n := 1; n < 7; n++ {
		for range 30 {
			x, _ := tableau.New(n)
			s, _ := state.Basis(n, 0)
			for halves := 12; halves > 0; {
				kind, qubits := anyGate(chance, n, true)
				if !gate.Clifford(kind) {
					continue
				}
				if gate.Halving(kind) {
					halves--
				}
				x, _ = tableau.Gate(x, kind, qubits)
				s, _ = apply.Gate(s, kind, qubits)
			}
			part := somePart(chance, n)
			bits, e := tableau.Cut(x, part)
			kept := keep.answer(t, given{m: from.answer(t, given{s: s}).m, qubits: part}).m
			if e != api.OK {
				t.Fatal(e)
			}
			purity.want(t, given{m: kept}, told{x: math.Ldexp(1, -bits)})
			product.want(t, given{s: s, qubits: part}, told{is: bits == 0})
		}
	}
}

// FuzzDensity holds the calls against the chapter written a second time, on any numbers.
func FuzzDensity(f *testing.F) {
	f.Add([]byte{0, 0, 0, 0, 0, 0, 0xe0, 0x3f}, 2, []byte{1, 0}, 7, uint64(3), uint64(1), 1)
	f.Add([]byte{}, 0, []byte{}, 0, uint64(0), uint64(0), 0)
	f.Add([]byte{0, 0, 0, 0, 0, 0, 0xf8, 0x7f}, 3, []byte{2, 0, 1}, 20, uint64(7), uint64(8), 3)
	f.Add([]byte{1, 2, 3, 4, 5, 6, 7}, 4, []byte{3, 3}, 11, uint64(15), uint64(1), 4)
	f.Fuzz(func(t *testing.T, data []byte, n int, qubits []byte, kind int, x, z uint64, phase int) {
		n = int(uint(n) % 6)
		g := given{kind: api.GateKind(kind), p: api.Pauli{N: n, X: x, Z: z, Phase: phase}}
		l := filled(data, 1<<n+3<<(2*n))
		g.s, l = l[:1<<n], l[1<<n:]
		g.m = api.Matrix{N: 1 << n, E: l[:1<<(2*n)]}
		for i := range 2 {
			g.l = append(g.l, api.Matrix{N: 1 << n, E: l[(1+i)<<(2*n) : (2+i)<<(2*n)]})
		}
		for _, q := range qubits[:min(len(qubits), 8)] {
			g.qubits = append(g.qubits, int(q)-1)
		}
		fuzz(t, g, n)
	})
}

// filled is so many numbers whose parts are these bytes, over and over.
func filled(data []byte, n int) []complex128 {
	l, at := make([]complex128, n), 0
	part := func() float64 {
		var b [8]byte
		for i := range b {
			if len(data) > 0 {
				b[i] = data[at%len(data)]
				at++
			}
		}
		return math.Float64frombits(binary.LittleEndian.Uint64(b[:]))
	}
	for k := range l {
		l[k] = complex(part(), part())
	}
	return l
}

func fuzz(t *testing.T, g given, n int) {
	for _, f := range []call{check, from, mix, kraus, fidelity, hermitian, purity, weights} {
		f.wantSlow(t, g)
	}
	fits := map[string]bool{
		keep.name: len(rest(g.qubits, n)) == n-len(g.qubits), product.name: len(rest(g.qubits, n)) == n-len(g.qubits),
		gateOn.name: gate.Check(g.kind, g.qubits, n) == api.OK, stringIn.name: pauli.Check(g.p) == api.OK,
	}
	for _, f := range []call{keep, product, gateOn, stringIn} {
		if fits[f.name] {
			f.wantSlow(t, g)
		} else {
			f.refuses(t, "what does not fit", g, api.ErrDensity)
		}
	}
}
