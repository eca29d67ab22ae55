package apply_test

import (
	"math"
	"math/big"
	"math/rand"
	"testing"

	"phasor/api"
	"phasor/apply"
	"phasor/gate"
	"phasor/state"
)

// weightOf is the weight as an exact number.
func weightOf(s []complex128) *big.Rat {
	whole := new(big.Rat)
	for _, z := range s {
		for _, x := range []float64{real(z), imag(z)} {
			part := new(big.Rat)
			part.SetFloat64(x)
			whole.Add(whole, part.Mul(part, part))
		}
	}
	return whole
}

// keeps takes Weight to be exact and one another's.
func keeps(t *testing.T, what string, ahead, behind []complex128) {
	t.Helper()
	if weightOf(ahead).Cmp(weightOf(behind)) != 0 {
		t.Errorf("%s: the weight is another", what)
	}
	a, _ := state.Weight(ahead)
	b, _ := state.Weight(behind)
	if !sameFloat(a, b) {
		t.Errorf("%s: Weight %v becomes %v", what, a, b)
	}
}

// halvesOf is by how many halves a gate makes a state less exact.
func halvesOf(o api.Op) int {
	if gate.Halving(o.Gate) {
		return 1
	}
	return 0
}

// done is the state behind a gate.
func done(t *testing.T, s []complex128, o api.Op) []complex128 {
	t.Helper()
	l, e := apply.Gate(s, o.Gate, o.Qubits)
	if e != api.OK {
		t.Fatal(gate.Name(o.Gate), o.Qubits, e)
	}
	return l
}

func inverse(o api.Op) api.Op { return op(gate.Inverse(o.Gate), o.Qubits...) }

// follows is P10.7 of one gate on a state that is exact with some halves and whose Weight is at most 1.
func follows(t *testing.T, s []complex128, halves int, o api.Op) {
	t.Helper()
	name := gate.Name(o.Gate)
	if halves+1 <= api.MaxHalves {
		l := done(t, s, o)
		if !state.Exact(l, halves+halvesOf(o)) {
			t.Errorf("%s: exact with %d, then with %d halves", name, halves, state.Halves(l))
		}
		keeps(t, name, s, l)
		m, _ := gate.Matrix(o.Gate)
		x, e := apply.Matrix(s, m, o.Qubits)
		want(t, name+"'s matrix", x, e, l...)
	}
	if halves+2*halvesOf(o) <= api.MaxHalves {
		want(t, name+" and its inverse", done(t, done(t, s, o), inverse(o)), api.OK, s...)
	}
}

// commute is P10.7 of two gates that may change places.
func commute(t *testing.T, s []complex128, halves int, a, b api.Op) {
	t.Helper()
	is, _ := gate.Commute(a.Gate, a.Qubits, b.Gate, b.Qubits)
	if !is || halves+halvesOf(a)+halvesOf(b) > api.MaxHalves {
		return
	}
	want(t, gate.Name(a.Gate)+" and "+gate.Name(b.Gate), done(t, done(t, s, a), b), api.OK, done(t, done(t, s, b), a)...)
}

func TestGatesFollow(t *testing.T) {
	chance := rand.New(rand.NewSource(1010))
	for n := 1; n <= 12; n++ {
		for _, k := range gate.Kinds() {
			if gate.Arity(k) > n {
				continue
			}
			for range 1 + 60>>n {
				o := op(k, chance.Perm(n)[:gate.Arity(k)]...)
				for _, halves := range []int{chance.Intn(23), 22, 23, 24} {
					s := exact(chance, 1<<n, halves)
					follows(t, s, halves, o)
					commute(t, s, halves, o, anyOp(chance, n))
					commute(t, s, halves, o, o)
				}
				basis, _ := state.Basis(n, chance.Intn(1<<n))
				follows(t, basis, 0, o)
			}
		}
	}
}

// P10.7: every two gates that commute, on all qubits of a few.
func TestAllThatCommute(t *testing.T) {
	chance := rand.New(rand.NewSource(1011))
	for _, a := range gate.Kinds() {
		for _, b := range gate.Kinds() {
			for range 12 {
				n := 3 + chance.Intn(2)
				halves := chance.Intn(23)
				commute(t, exact(chance, 1<<n, halves), halves, op(a, chance.Perm(n)[:gate.Arity(a)]...), op(b, chance.Perm(n)[:gate.Arity(b)]...))
			}
		}
	}
}

// apart is P10.7's last: monomial gates on unlike qubits, on any state whatever.
func apart(t *testing.T, s []complex128, a, b api.Op) {
	t.Helper()
	want(t, gate.Name(a.Gate)+" beside "+gate.Name(b.Gate), done(t, done(t, s, a), b), api.OK, done(t, done(t, s, b), a)...)
}

func TestMonomialGatesApart(t *testing.T) {
	chance := rand.New(rand.NewSource(1012))
	for _, a := range gate.Kinds() {
		for _, b := range gate.Kinds() {
			if !gate.Monomial(a) || !gate.Monomial(b) {
				continue
			}
			for n := gate.Arity(a) + gate.Arity(b); n <= 7; n++ {
				l := chance.Perm(n)
				for _, s := range states(chance, n) {
					apart(t, s, op(a, l[:gate.Arity(a)]...), op(b, l[n-gate.Arity(b):]...))
				}
			}
		}
	}
}

// W1 and W3: a row of gates from a basis state, and their inverses behind it.
func thereAndBack(t *testing.T, n, k int, ops []api.Op) {
	t.Helper()
	s, _ := state.Basis(n, k)
	halves := 0
	var back []api.Op
	for _, o := range ops {
		halves += halvesOf(o)
		back = append([]api.Op{inverse(o)}, back...)
	}
	l, _, e := apply.Ops(s, ops)
	if e != api.OK || !state.Exact(l, halves) {
		t.Errorf("W1: error %d, %d halves, not %d", e, state.Halves(l), halves)
	}
	if w, _ := state.Weight(l); w != 1 {
		t.Errorf("W1: the weight is %v", w)
	}
	if 2*halves <= api.MaxHalves {
		l, _, e = apply.Ops(l, back)
		want(t, "W3", l, e, s...)
	}
}

// circuitOf is a row of gates of which no more than some halve.
func circuitOf(chance *rand.Rand, n, many, halves int) []api.Op {
	var ops []api.Op
	for range many {
		o := anyOp(chance, n)
		if halves -= halvesOf(o); halves < 0 {
			break
		}
		ops = append(ops, o)
	}
	return ops
}

func TestThereAndBack(t *testing.T) {
	chance := rand.New(rand.NewSource(1013))
	for n := 1; n <= 12; n++ {
		for range 1 + 300>>n {
			for _, halves := range []int{12, 24} {
				thereAndBack(t, n, chance.Intn(1<<n), circuitOf(chance, n, 120, halves))
			}
		}
	}
}

// W3: from any exact state, as long as all halves together are no more than MaxHalves.
func TestThereAndBackFromExact(t *testing.T) {
	chance := rand.New(rand.NewSource(1014))
	for n := 1; n <= 12; n++ {
		for range 1 + 100>>n {
			halves := chance.Intn(25)
			s := exact(chance, 1<<n, halves)
			ops := circuitOf(chance, n, 40, (24-halves)/2)
			both := append([]api.Op{}, ops...)
			for i := len(ops) - 1; i >= 0; i-- {
				both = append(both, inverse(ops[i]))
			}
			l, _, e := apply.Ops(s, both)
			want(t, "W3", l, e, s...)
		}
	}
}

// FuzzFollows is P10.1 to P10.5 against the slow formulas, and P10.7, of states whose amplitudes come from bytes.
func FuzzFollows(f *testing.F) {
	f.Add([]byte{0, 16, 32, 255, 1, 7, 99, 200}, 3, 2, int64(1), 3)
	f.Add([]byte{255, 0}, 12, 23, int64(2), 64)
	f.Add([]byte{}, 1, 0, int64(3), 1)
	f.Fuzz(func(t *testing.T, l []byte, n, m int, seed int64, hands int) {
		chance := rand.New(rand.NewSource(seed))
		qubits, halves := 1+(n%7+7)%7, (m%25+25)%25
		s := make([]complex128, 1<<qubits)
		left := math.Ldexp(1, 2*halves)
		part := func(i int) float64 {
			if i >= len(l) {
				return 0
			}
			x := math.Trunc(math.Sqrt(left) * float64(int8(l[i])) / 128)
			left -= x * x
			return x*math.Ldexp(1, -halves) + 0
		}
		for k := range s {
			s[k] = complex(part(2*k), part(2*k+1))
		}
		a, b := anyOp(chance, qubits), anyOp(chance, qubits)
		follows(t, s, halves, a)
		commute(t, s, halves, a, b)
		wild := odd(chance, len(s))
		for i := range min(len(l), len(s)) {
			wild[i] += s[i]
		}
		want(t, "Gate", done(t, wild, a), api.OK, slowGate(wild, a.Gate, a.Qubits)...)
		got, e := apply.Hands(wild, b.Gate, b.Qubits, 1+(hands%64+64)%64)
		want(t, "Hands", got, e, slowGate(wild, b.Gate, b.Qubits)...)
		thereAndBack(t, qubits, chance.Intn(len(s)), circuitOf(chance, qubits, 40, 24))
	})
}
