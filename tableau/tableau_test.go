package tableau_test

import (
	"fmt"
	"math/rand"
	"testing"

	"phasor/api"
	"phasor/gate"
	"phasor/pauli"
	"phasor/tableau"
)

// P14.1: right ones of all sizes, the one of no qubits among them; nil and empty lists are the same.
func TestCheckTakes(t *testing.T) {
	chance := rand.New(rand.NewSource(1401))
	for n := range 65 {
		wantRight(t, "fresh", fresh(n))
		for range 3 {
			wantRight(t, "any", anyTableau(chance, n))
		}
	}
	for _, none := range []api.Tableau{{}, {Stab: []api.Pauli{}}, {Destab: []api.Pauli{}}, {Stab: []api.Pauli{}, Destab: []api.Pauli{}}} {
		wantRight(t, "no qubits", none)
	}
	room := append(fresh(3).Stab, read("+XXX"), api.Pauli{N: -1})
	wantRight(t, "room behind the end", api.Tableau{N: 3, Stab: room[:3], Destab: fresh(3).Destab})
}

// P14.1: all tableaux of one qubit, whatever their phases, and all letters of two.
func TestCheckOfAll(t *testing.T) {
	compare := func(a api.Tableau) {
		t.Helper()
		if (tableau.Check(a) == api.OK) != slowRight(a) {
			t.Error(a)
		}
	}
	var one []api.Pauli
	for phase := range 4 {
		for letters := range uint64(4) {
			one = append(one, api.Pauli{N: 1, X: letters & 1, Z: letters >> 1, Phase: phase})
		}
	}
	for _, p := range one {
		for _, q := range one {
			compare(api.Tableau{N: 1, Stab: []api.Pauli{p}, Destab: []api.Pauli{q}})
		}
	}
	two := signedStrings(2)
	for i := range 1 << 16 {
		pick := func(k int) api.Pauli { return two[i>>(4*k)&15+16*(i>>k&1)] }
		compare(api.Tableau{N: 2, Stab: []api.Pauli{pick(0), pick(1)}, Destab: []api.Pauli{pick(2), pick(3)}})
	}
}

// P14.1: what is not right, and by chance: right ones of which one bit was turned.
func TestCheckRefuses(t *testing.T) {
	for _, a := range wrongs() {
		if e := tableau.Check(a); e != api.ErrTableau || slowRight(a) {
			t.Error(a, e)
		}
	}
	chance := rand.New(rand.NewSource(1402))
	for _, n := range sizes()[1:] {
		for range 20 {
			a := anyTableau(chance, n)
			l := [][]api.Pauli{a.Stab, a.Destab}[chance.Intn(2)]
			i, q := chance.Intn(n), chance.Intn(n)
			if chance.Intn(2) == 0 {
				l[i].X ^= 1 << q
			} else {
				l[i].Z ^= 1 << q
			}
			if wanted := slowRight(a); (tableau.Check(a) == api.OK) != wanted {
				t.Error(a, wanted)
			}
		}
	}
}

// refusing is what each call answers of a tableau: whether all is of nothing but the error.
func refusing(a api.Tableau) map[string]func() (bool, api.Errno) {
	none := func(b api.Tableau) bool { return b.N == 0 && len(b.Stab) == 0 && len(b.Destab) == 0 }
	l := map[string]func() (bool, api.Errno){
		"Canon": func() (bool, api.Errno) { x, e := tableau.Canon(a); return len(x) == 0, e },
	}
	for _, q := range []int{0, -1, 64, least} {
		for _, v := range []int{0, 1, 2, -1} {
			l[fmt.Sprint("Project ", q, v)] = func() (bool, api.Errno) { b, e := tableau.Project(a, q, v); return none(b), e }
			l[fmt.Sprint("Settle ", q, v)] = func() (bool, api.Errno) { b, e := tableau.Settle(a, q, v); return none(b), e }
		}
		l[fmt.Sprint("Odds ", q)] = func() (bool, api.Errno) { x, e := tableau.Odds(a, q); return x == 0, e }
		for _, k := range []api.GateKind{0, api.GateX, api.GateCCX, 21} {
			l[fmt.Sprint("Gate ", k, q)] = func() (bool, api.Errno) { b, e := tableau.Gate(a, k, []int{q}); return none(b), e }
		}
		l[fmt.Sprint("Order ", q)] = func() (bool, api.Errno) { b, e := tableau.Order(a, []int{q}); return none(b), e }
		l[fmt.Sprint("Cut ", q)] = func() (bool, api.Errno) { x, e := tableau.Cut(a, []int{q}); return x == 0, e }
	}
	for _, p := range []api.Pauli{{}, {N: a.N}, {N: -1}, {N: a.N, Phase: 2}, {N: a.N, Phase: 1}} {
		l[fmt.Sprint("Member ", p)] = func() (bool, api.Errno) { x, e := tableau.Member(a, p); return x == 0, e }
		l[fmt.Sprint("Force ", p)] = func() (bool, api.Errno) { b, x, e := tableau.Force(a, p); return none(b) && x == 0, e }
	}
	for _, b := range []api.Tableau{a, fresh(0), fresh(2), fresh(64), fresh(65)} {
		l[fmt.Sprint("Overlap ahead ", b.N)] = func() (bool, api.Errno) { x, e := tableau.Overlap(a, b); return x == 0, e }
		l[fmt.Sprint("Overlap behind ", b.N)] = func() (bool, api.Errno) { x, e := tableau.Overlap(b, a); return x == 0, e }
		l[fmt.Sprint("Kron ahead ", b.N)] = func() (bool, api.Errno) { c, e := tableau.Kron(a, b); return none(c), e }
		l[fmt.Sprint("Kron behind ", b.N)] = func() (bool, api.Errno) { c, e := tableau.Kron(b, a); return none(c), e }
	}
	return l
}

// P14.1: each call tells first that a tableau is not right, whatever else is wrong.
func TestErrTableauIsFirst(t *testing.T) {
	for _, a := range wrongs() {
		for what, call := range refusing(a) {
			if nothing, e := call(); !nothing || e != api.ErrTableau {
				t.Errorf("%s of %v: error %d, nothing %t", what, a, e, nothing)
			}
		}
		if tableau.Same(a, a) || tableau.Same(a, fresh(0)) || tableau.Same(fresh(2), a) {
			t.Error("Same of", a)
		}
	}
}

// P14.2
func TestNew(t *testing.T) {
	for n := range 65 {
		a, e := tableau.New(n)
		want(t, "New", a, e, fresh(n))
		wantRight(t, "New", a)
	}
	for _, n := range []int{-1, -2, -64, 65, 66, 128, 1 << 32, least, least + 1, great} {
		a, e := tableau.New(n)
		wantNone(t, fmt.Sprint("New ", n), a, e, api.ErrArg)
	}
}

// P14.3: each string goes through the gate.
func TestGate(t *testing.T) {
	chance := rand.New(rand.NewSource(1403))
	for _, n := range sizes()[1:] {
		for _, k := range cliffords() {
			if gate.Arity(k) > n {
				continue
			}
			for _, row := range [][]int{chance.Perm(n), {0, n - 1}, {n - 1, 0}} {
				qubits, a := row[:gate.Arity(k)], anyTableau(chance, n)
				wanted := copied(a)
				for i := range n {
					wanted.Stab[i] = through(a.Stab[i], k, qubits...)
					wanted.Destab[i] = through(a.Destab[i], k, qubits...)
				}
				b, e := tableau.Gate(a, k, qubits)
				want(t, fmt.Sprint("Gate ", k, qubits), b, e, wanted)
				wantRight(t, "Gate", b)
			}
		}
	}
}

// P14.3: by hand.
func TestGateByHand(t *testing.T) {
	for _, c := range []struct {
		k      api.GateKind
		qubits []int
		wanted api.Tableau
	}{
		{api.GateX, []int{1}, of("+ZI", "-IZ", "+XI", "+IX")},
		{api.GateY, []int{0}, of("-ZI", "+IZ", "-XI", "+IX")},
		{api.GateS, []int{0}, of("+ZI", "+IZ", "+YI", "+IX")},
		{api.GateV, []int{0}, of("-YI", "+IZ", "+XI", "+IX")},
		{api.GateHH, []int{1, 0}, of("+XI", "+IX", "+ZI", "+IZ")},
		{api.GateCX, []int{1, 0}, of("+ZZ", "+IZ", "+XI", "+XX")},
		{api.GateISw, []int{0, 1}, of("+IZ", "+ZI", "+ZY", "+YZ")},
	} {
		b, e := tableau.Gate(fresh(2), c.k, c.qubits)
		want(t, fmt.Sprint(c.k, c.qubits), b, e, c.wanted)
	}
}

// P14.3: what layer 6 refuses comes ahead of what is no Clifford gate.
func TestGateRefuses(t *testing.T) {
	refuse := func(n int, k api.GateKind, wanted api.Errno, qubits ...int) {
		t.Helper()
		b, e := tableau.Gate(fresh(n), k, qubits)
		wantNone(t, fmt.Sprint("Gate ", n, k, qubits), b, e, wanted)
		if f := gate.Check(k, qubits, n); wanted != api.ErrClifford && f != wanted {
			t.Error("layer 6:", f)
		}
	}
	for _, k := range []api.GateKind{0, -1, 21, 22, 64, 1 << 32, least, great} {
		for many := range 4 {
			refuse(4, k, api.ErrGate, []int{0, 0, 9}[:many]...)
		}
		refuse(0, k, api.ErrGate)
	}
	for _, k := range gate.Kinds() {
		for many := range 5 {
			if many != gate.Arity(k) {
				refuse(4, k, api.ErrWire, []int{0, 1, 2, 3}[:many]...)
			}
		}
		for _, q := range []int{-1, 4, 5, 63, 64, 65, least, great, 1 << 32} {
			refuse(4, k, api.ErrWire, []int{q, 1, 2}[:gate.Arity(k)]...)
			refuse(4, k, api.ErrWire, append([]int{1, 2, 3}[:gate.Arity(k)-1:3], q)...)
		}
		if gate.Arity(k) > 1 {
			refuse(4, k, api.ErrWire, []int{1, 1, 2}[:gate.Arity(k)]...)
		}
		refuse(0, k, api.ErrWire, []int{0, 1, 2}[:gate.Arity(k)]...)
	}
	for _, k := range []api.GateKind{api.GateCCX, api.GateCCZ, api.GateCSw} {
		refuse(3, k, api.ErrClifford, 0, 1, 2)
		refuse(64, k, api.ErrClifford, 63, 0, 31)
		refuse(2, k, api.ErrWire, 0, 1, 2)
	}
	refuse(64, api.GateX, api.ErrWire, 64)
}

// P14.10: a gate and then its inverse give the same strings.
func TestGateAndBack(t *testing.T) {
	chance := rand.New(rand.NewSource(1404))
	for _, n := range sizes()[1:] {
		a := anyTableau(chance, n)
		for _, k := range cliffords() {
			if gate.Arity(k) > n {
				continue
			}
			qubits := chance.Perm(n)[:gate.Arity(k)]
			there := done(t, a, k, qubits...)
			back, e := tableau.Gate(there, gate.Inverse(k), qubits)
			want(t, "there and back", back, e, a)
		}
	}
}

// The slow rule of what commutes is layer 13's.
func TestParts(t *testing.T) {
	for _, p := range signedStrings(2) {
		for _, q := range signedStrings(2) {
			if is, e := pauli.Commute(p, q); is == parts(p, q) || e != api.OK {
				t.Error(p, q, is, e)
			}
		}
	}
}
