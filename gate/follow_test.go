package gate_test

import (
	"slices"
	"testing"

	"phasor/api"
	"phasor/gate"
	"phasor/plane"
)

// P6.9: of every kind.
func TestFollows(t *testing.T) {
	for _, k := range gate.Kinds() {
		inverse := gate.Inverse(k)
		if gate.Inverse(inverse) != k {
			t.Errorf("%s: the inverse of %s is %d", gate.Name(k), gate.Name(inverse), gate.Inverse(inverse))
		}
		m, _ := gate.Matrix(k)
		back, _ := gate.Matrix(inverse)
		if !timesIsUnit(m, back) || !timesIsUnit(back, m) {
			t.Errorf("%s and %s do not undo each other", gate.Name(k), gate.Name(inverse))
		}
		for i := range m.E {
			row, column := i/m.N, i%m.N
			if !plane.Equal(back.E[i], plane.Conj(m.E[m.N*column+row])) {
				t.Errorf("%s: entry %d of its inverse is %v", gate.Name(k), i, back.E[i])
			}
		}
		qubits := []int{4, 2, 9}[:gate.Arity(k)]
		wantCommute(t, k, qubits, k, qubits, true)
		wantCommute(t, k, qubits, inverse, qubits, true)
	}
}

// timesIsUnit multiplies with the language's own complex numbers.
func timesIsUnit(a, b api.Matrix) bool {
	for i := range a.E {
		var sum, wanted complex128
		for k := range a.N {
			sum += a.E[i/a.N*a.N+k] * b.E[k*a.N+i%a.N]
		}
		if i/a.N == i%a.N {
			wanted = 1
		}
		if sum != wanted {
			return false
		}
	}
	return true
}

// P6.9: gates that have no qubit in common commute, and so do diagonal ones, whatever they have in common.
func TestWhatAlwaysCommutes(t *testing.T) {
	for _, a := range gate.Kinds() {
		for _, b := range gate.Kinds() {
			wantCommute(t, a, []int{3, 0, 7}[:gate.Arity(a)], b, []int{1, 8, 2}[:gate.Arity(b)], true)
			if !gate.Diagonal(a) || !gate.Diagonal(b) {
				continue
			}
			placings(gate.Arity(a), gate.Arity(b), func(aq, bq []int, _ int) {
				wantCommute(t, a, aq, b, bq, true)
			})
		}
	}
}

// P6.6 and P6.8 to P6.10 agree: what two gates of one qubit compose to is their word, and they commute just if both orders have one word.
func TestWordsOfPairs(t *testing.T) {
	spell := func(first, then api.GateKind) []api.GateKind {
		a, b := squareOf(lineOf(first).entries()), squareOf(lineOf(then).entries())
		l, e := gate.Word(api.Matrix{N: 2, E: b.times(a).floats()})
		if e != api.OK {
			t.Errorf("%d, %d: %d", first, then, e)
		}
		return l
	}
	for _, first := range kindsOf(1) {
		for _, then := range kindsOf(1) {
			l := spell(first, then)
			k, ok := gate.Compose(first, then)
			if ok != (len(l) < 2) || ok && k != api.GateI && !slices.Equal(l, []api.GateKind{k}) {
				t.Errorf("%d, %d: %d %t, but %v", first, then, k, ok, l)
			}
			wantCommute(t, first, []int{0}, then, []int{0}, slices.Equal(l, spell(then, first)))
		}
	}
}

// FuzzFollows asks every call of any numbers: what they tell of one another holds.
func FuzzFollows(f *testing.F) {
	f.Add(2, 11, 0, 1, 2, 0, "sx", 1.0)
	f.Add(19, 20, 5, 6, 7, 6, "", 0.5)
	f.Add(21, 0, -1, -1, 1<<62, 3, "cswap", -1.0)
	f.Fuzz(func(t *testing.T, x, y, p, q, r, n int, name string, part float64) {
		a, b := api.GateKind(x), api.GateKind(y)
		if k, e := gate.Of(name); e == api.OK && gate.Name(k) != name || e != api.OK && k != 0 {
			t.Errorf("%q: %d %d", name, k, e)
		}
		if to, turn, ok := gate.Moves(a, p); ok {
			if back, again, ok := gate.Moves(gate.Inverse(a), to); !ok || back != p || (turn+again)%4 != 0 {
				t.Errorf("%d moves %d to %d and back to %d: %d %d", a, p, to, back, turn, again)
			}
		}
		aq := []int{p, q, r}[:min(gate.Arity(a), 3)]
		bq := []int{r, q, n}[:min(gate.Arity(b), 3)]
		if gate.Check(a, aq, n) == api.OK && gate.Check(b, bq, n) != api.ErrGate {
			is, e := gate.Commute(a, aq, b, bq)
			other, f := gate.Commute(b, bq, a, aq)
			if is != other || e != f {
				t.Errorf("%d %v, %d %v: %t %d, %t %d", a, aq, b, bq, is, e, other, f)
			}
		}
		if k, ok := gate.Compose(a, b); ok && gate.Arity(k) != gate.Arity(a) || !ok && k != 0 {
			t.Errorf("%d behind %d: %d %t", b, a, k, ok)
		}
		if l, e := gate.Word(api.Matrix{N: 2, E: []complex128{complex(part, 0), 0, 0, complex(0, part)}}); e == api.OK && part != 1 && part != -1 {
			t.Errorf("%v: %v", part, l)
		}
	})
}
