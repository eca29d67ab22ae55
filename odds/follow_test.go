package odds_test

import (
	"math"
	"math/big"
	"math/rand"
	"testing"

	"phasor/api"
	"phasor/apply"
	"phasor/gate"
	"phasor/odds"
	"phasor/state"
)

// total adds exactly.
func total(l ...float64) *big.Rat {
	sum := new(big.Rat)
	for _, x := range l {
		part := new(big.Rat)
		part.SetFloat64(x)
		sum.Add(sum, part)
	}
	return sum
}

// weigh, marginal and project are what is answered of what may be asked.
func weigh(t *testing.T, s []complex128, qubit int) (float64, float64) {
	t.Helper()
	zero, one, e := odds.Weigh(s, qubit)
	if e != api.OK {
		t.Fatal("Weigh", qubit, e)
	}
	return zero, one
}

func marginal(t *testing.T, s []complex128, qubits ...int) []float64 {
	t.Helper()
	l, e := odds.Marginal(s, qubits)
	if e != api.OK {
		t.Fatal("Marginal", qubits, e)
	}
	return l
}

func project(t *testing.T, s []complex128, qubit, value int) []complex128 {
	t.Helper()
	l, e := odds.Project(s, qubit, value)
	if e != api.OK {
		t.Fatal("Project", qubit, value, e)
	}
	return l
}

// wantTotal takes weights to be together the Weight of a state, as exact numbers and as floats.
func wantTotal(t *testing.T, what string, s []complex128, l ...float64) {
	t.Helper()
	weight, e := state.Weight(s)
	if e != api.OK || total(l...).Cmp(total(weight)) != 0 || !sameFloat(added(l), weight) {
		t.Errorf("%s: together %v, not %v", what, added(l), weight)
	}
}

// wantTogether takes two rows of weights to be together a third, exactly.
func wantTogether(t *testing.T, what string, a, b, both []float64) {
	t.Helper()
	for m := range both {
		if total(a[m], b[m]).Cmp(total(both[m])) != 0 || !sameFloat(a[m]+b[m], both[m]) {
			t.Errorf("%s: number %d: %v and %v, not %v", what, m, a[m], b[m], both[m])
		}
	}
}

// follows is P11.6 of an exact state of at most MaxHalves halves whose Weight is at most 1: of one qubit, and of some others.
func follows(t *testing.T, s []complex128, qubit int, others []int) {
	t.Helper()
	zero, one := weigh(t, s, qubit)
	wantTotal(t, "Weigh", s, zero, one)
	wantFloats(t, "Marginal of one", marginal(t, s, qubit), api.OK, zero, one)
	all := marginal(t, s, others...)
	wantTotal(t, "Marginal", s, all...)
	wantTotal(t, "Marginal of all", s, marginal(t, s, append([]int{qubit}, others...)...)...)
	first, second := project(t, s, qubit, 0), project(t, s, qubit, 1)
	wantTotal(t, "Project to 0", first, zero)
	wantTotal(t, "Project to 1", second, one)
	wantTogether(t, "Marginals of Projects", marginal(t, first, others...), marginal(t, second, others...), all)
}

// once is P11.6 of any state: Project twice, and of another value.
func once(t *testing.T, s []complex128, qubit int) {
	t.Helper()
	for v := range 2 {
		l := project(t, s, qubit, v)
		want(t, "Project twice", project(t, l, qubit, v), api.OK, l...)
		want(t, "Project of another value", project(t, l, qubit, 1-v), api.OK, make([]complex128, len(s))...)
		settled, e := odds.Settle(s, qubit, v)
		want(t, "a settled qubit is 0", project(t, settled, qubit, 0), e, settled...)
	}
}

func TestOddsFollow(t *testing.T) {
	chance := rand.New(rand.NewSource(1108))
	for n := 1; n <= 12; n++ {
		for range 3 + 200>>n {
			for _, halves := range []int{chance.Intn(24), 24} {
				l := chance.Perm(n)
				s := exact(chance, 1<<n, halves)
				if !state.Exact(s, halves) {
					t.Fatal("not exact")
				}
				follows(t, s, l[0], l[1:1+chance.Intn(n)])
				follows(t, s, l[0], l[1:])
			}
			for _, s := range states(chance, n) {
				once(t, s, chance.Intn(n))
			}
		}
	}
}

// P11.6: what Choose decides weighs something, of exact states and of any weights that it takes.
func TestChosenWeighs(t *testing.T) {
	chance := rand.New(rand.NewSource(1109))
	us := []float64{0, minus0, tiny, 0x1p-53, 0.25, 0.5, 0.75, 1 - 0x1p-52, 1 - 0x1p-53}
	heavy := func(zero, one, u float64) {
		t.Helper()
		v, e := odds.Choose(zero, one, u)
		if e == api.OK && !([2]float64{zero, one}[v] > 0) {
			t.Errorf("Choose of %v, %v, %v: %d", zero, one, u, v)
		}
	}
	for _, u := range append(us, chance.Float64()) {
		for _, zero := range floats() {
			for _, one := range floats() {
				heavy(zero, one, u)
			}
		}
		for range 200 {
			s := exact(chance, 8, chance.Intn(25))
			q := chance.Intn(3)
			zero, one := weigh(t, s, q)
			heavy(zero, one, u)
			if zero+one > 0 {
				v, e := odds.Choose(zero, one, u)
				if w, _ := state.Weight(project(t, s, q, v)); e != api.OK || w <= 0 {
					t.Errorf("chosen: %d, of weight %v, error %d", v, w, e)
				}
			}
		}
	}
}

// sides parts qubits at chance into two that are not empty.
func sides(chance *rand.Rand, n int) ([]int, []int) {
	l := chance.Perm(n)
	cut := 1 + chance.Intn(n-1)
	return l[:cut], l[cut:]
}

// anyGate is done on some of the qubits of a side.
func anyGate(t *testing.T, chance *rand.Rand, s []complex128, side []int, halves int) ([]complex128, int) {
	t.Helper()
	for {
		k := api.GateKind(1 + chance.Intn(20))
		if gate.Arity(k) > len(side) || gate.Halving(k) && halves == 0 {
			continue
		}
		if gate.Halving(k) {
			halves--
		}
		var qubits []int
		for _, j := range chance.Perm(len(side))[:gate.Arity(k)] {
			qubits = append(qubits, side[j])
		}
		l, e := apply.Gate(s, k, qubits)
		if e != api.OK {
			t.Fatal(k, qubits, e)
		}
		return l, halves
	}
}

// W4: one side does gates and measures, and goes on with gates that hang on what came; the other side's odds, summed over what came, are what they were.
func TestNoSignals(t *testing.T) {
	chance := rand.New(rand.NewSource(1110))
	var branches func(s []complex128, side []int, halves, deep int) [][]complex128
	branches = func(s []complex128, side []int, halves, deep int) [][]complex128 {
		for range chance.Intn(4) {
			s, halves = anyGate(t, chance, s, side, halves)
		}
		if deep == 0 {
			return [][]complex128{s}
		}
		q := side[chance.Intn(len(side))]
		zero, e := odds.Project(s, q, 0)
		one, f := odds.Settle(s, q, 1)
		if e != api.OK || f != api.OK {
			t.Fatal(e, f)
		}
		return append(branches(zero, side, halves, deep-1), branches(one, side, halves, deep-1)...)
	}
	for n := 2; n <= 10; n++ {
		for range 4 + 100>>n {
			halves := chance.Intn(25)
			s := exact(chance, 1<<n, halves)
			here, there := sides(chance, n)
			wanted := marginal(t, s, there...)
			sums := make([]float64, len(wanted))
			for _, l := range branches(s, here, 24-halves, chance.Intn(5)) {
				for m, w := range marginal(t, l, there...) {
					sums[m] += w
				}
			}
			wantFloats(t, "the other side's odds", sums, api.OK, wanted...)
		}
	}
}

// FuzzFollows is P11.1 to P11.5 against the slow formulas, and P11.6, of states whose amplitudes come from bytes.
func FuzzFollows(f *testing.F) {
	f.Add([]byte{0, 16, 32, 255, 1, 7, 99, 200}, 3, 2, int64(1), 0.5, 0.5)
	f.Add([]byte{255, 0}, 12, 24, int64(2), 0.0, 1-0x1p-53)
	f.Add([]byte{}, 1, 0, int64(3), math.MaxFloat64, 1.0)
	f.Fuzz(func(t *testing.T, l []byte, n, m int, seed int64, x, u float64) {
		chance := rand.New(rand.NewSource(seed))
		qubits, halves := 1+(n%7+7)%7, (m%25+25)%25
		s := make([]complex128, 1<<qubits)
		left := math.Ldexp(1, 2*halves)
		part := func(i int) float64 {
			if i >= len(l) {
				return 0
			}
			x := math.Trunc(math.Sqrt(left) * float64(int8(l[i])) / 128)
			left -= x * x
			return x*math.Ldexp(1, -halves) + 0
		}
		for k := range s {
			s[k] = complex(part(2*k), part(2*k+1))
		}
		order := chance.Perm(qubits)
		follows(t, s, order[0], order[1:1+chance.Intn(qubits)])
		wild := odd(chance, len(s))
		for _, row := range [][]complex128{s, wild, small(chance, len(s))} {
			asked := order[:chance.Intn(qubits+1)]
			wantFloats(t, "Marginal", marginal(t, row, asked...), api.OK, slowMarginal(row, asked...)...)
			once(t, row, order[0])
			settled, e := odds.Settle(row, order[0], 1)
			want(t, "Settle", settled, e, slowSettle(row, order[0], 1)...)
			k, e := slowSample(row, u)
			wantSample(t, row, u, k, e)
			zero, one := weigh(t, row, order[0])
			for _, pair := range [][2]float64{{zero, one}, {zero, x}, {x, one}} {
				v, e := slowChoose(pair[0], pair[1], u)
				wantChoice(t, pair[0], pair[1], u, v, e)
			}
		}
	})
}
