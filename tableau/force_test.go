package tableau_test

import (
	"fmt"
	"math"
	"math/rand"
	"testing"

	"phasor/api"
	"phasor/odds"
	"phasor/tableau"
)

// noQubits are numbers that are no qubit of n.
func noQubits(n int) []int {
	return []int{-1, -2, -64, n, n + 1, 64, 65, 128, 1 << 32, least, least + 1, great}
}

// letterZ is Z at a qubit, with a sign for 1.
func letterZ(n, qubit, value int) api.Pauli {
	return api.Pauli{N: n, Z: 1 << qubit, Phase: 2 * value}
}

// slowOdds is by the states' weights: 0, 1 or 2.
func slowOdds(t *testing.T, s []complex128, qubit int) int {
	t.Helper()
	zero, one, e := odds.Weigh(s, qubit)
	switch {
	case e != api.OK || zero == 0 && one == 0:
		t.Fatal("Weigh", zero, one, e)
	case one == 0:
		return 0
	case zero == 0:
		return 1
	case zero != one:
		t.Error("not as likely as one another:", zero, one)
	}
	return 2
}

// P14.4: by the weights of the states, which are as likely as one another where either may come.
func TestOddsByWeights(t *testing.T) {
	chance := rand.New(rand.NewSource(1411))
	seen := [3]int{}
	for n := 1; n <= 6; n++ {
		for range 60 {
			a := anyTableau(chance, n)
			s := slowState(a)
			for q := range n {
				v, e := tableau.Odds(a, q)
				wantNumber(t, "Odds", v, e, slowOdds(t, s, q), api.OK)
				seen[v]++
			}
		}
	}
	if seen[0] < 50 || seen[1] < 50 || seen[2] < 50 {
		t.Error("too few of some:", seen)
	}
}

// P14.4: by the strings, of any number of qubits.
func TestOddsOfMany(t *testing.T) {
	chance := rand.New(rand.NewSource(1412))
	for _, n := range sizes() {
		for range 5 {
			a := anyTableau(chance, n)
			for q := range n {
				if chance.Intn(2) == 0 {
					a, _ = slowForce(a, letterZ(n, q, 0))
				}
				if a.N != n {
					a = anyTableau(chance, n)
				}
			}
			for q := range n {
				wanted := 2
				if _, many := slowForce(a, letterZ(n, q, 0)); many < 1 {
					wanted = -many
				}
				v, e := tableau.Odds(a, q)
				wantNumber(t, "Odds", v, e, wanted, api.OK)
			}
		}
	}
}

// P14.4, P14.5: qubits that are not there, and values that are none.
func TestMeasurementsRefuse(t *testing.T) {
	for _, n := range sizes() {
		a := fresh(n)
		for _, q := range noQubits(n) {
			if q >= 0 && q < n {
				continue
			}
			v, e := tableau.Odds(a, q)
			wantNumber(t, "Odds", v, e, 0, api.ErrArg)
			for _, value := range []int{0, 1, 2, -1} {
				b, e := tableau.Project(a, q, value)
				wantNone(t, fmt.Sprint("Project ", q, value), b, e, api.ErrArg)
				b, e = tableau.Settle(a, q, value)
				wantNone(t, fmt.Sprint("Settle ", q, value), b, e, api.ErrArg)
			}
		}
		for q := range n {
			for _, value := range []int{-1, -2, 2, 3, 256, 1 << 32, 1<<32 + 1, least, great} {
				b, e := tableau.Project(a, q, value)
				wantNone(t, "Project", b, e, api.ErrArg)
				b, e = tableau.Settle(a, q, value)
				wantNone(t, "Settle", b, e, api.ErrArg)
			}
		}
	}
}

// P14.5: strings of all that is left, of any number of qubits, measured one behind the other.
func TestProject(t *testing.T) {
	chance := rand.New(rand.NewSource(1413))
	for _, n := range sizes() {
		a := anyTableau(chance, n)
		for _, q := range append(chance.Perm(n), chance.Perm(n)...) {
			value := chance.Intn(2)
			wanted, many := slowForce(a, letterZ(n, q, value))
			b, e := tableau.Project(a, q, value)
			c, f := tableau.Settle(a, q, value)
			if many < 0 {
				wantNone(t, "Project", b, e, api.ErrNothing)
				wantNone(t, "Settle", c, f, api.ErrNothing)
				continue
			}
			want(t, "Project", b, e, wanted)
			wantRight(t, "Project", b)
			settled := copied(wanted)
			for i := range n {
				if value == 1 {
					settled.Stab[i] = through(wanted.Stab[i], api.GateX, q)
					settled.Destab[i] = through(wanted.Destab[i], api.GateX, q)
				}
			}
			want(t, "Settle", c, f, settled)
			wantRight(t, "Settle", c)
			a = b
		}
	}
}

// P14.5: by hand: the least string that does not commute is taken, others are multiplied with it, and its destabilizer is left out.
func TestProjectByHand(t *testing.T) {
	a := of("+ZZI", "+XXX", "-XYY", "+XII", "+XXZ", "+XXI")
	wantRight(t, "a", a)
	b, e := tableau.Project(a, 2, 1)
	want(t, "one stabilizer", b, e, of("+ZZI", "-IIZ", "+IZZ", "+XII", "+XXX", "+XXI"))
	b, e = tableau.Settle(a, 2, 1)
	want(t, "and x", b, e, of("+ZZI", "+IIZ", "-IZZ", "+XII", "+XXX", "+XXI"))
	b, e = tableau.Project(a, 0, 0)
	want(t, "destabilizers, too", b, e, of("+ZZI", "+ZII", "+IZZ", "+IXX", "+XXX", "+IIX"))
}

// P14.5, by states: what is left is left of the state.
func TestProjectByStates(t *testing.T) {
	chance := rand.New(rand.NewSource(1414))
	for n := 1; n <= 6; n++ {
		for range 40 {
			a := anyTableau(chance, n)
			s := slowState(a)
			q, value := chance.Intn(n), chance.Intn(2)
			projected, e := odds.Project(s, q, value)
			settled, f := odds.Settle(s, q, value)
			if e != api.OK || f != api.OK {
				t.Fatal(e, f)
			}
			b, e := tableau.Project(a, q, value)
			c, f := tableau.Settle(a, q, value)
			if weight(projected) == 0 {
				wantNone(t, "Project", b, e, api.ErrNothing)
				wantNone(t, "Settle", c, f, api.ErrNothing)
				continue
			}
			if e != api.OK || f != api.OK || !stabilized(b, projected) || !stabilized(c, settled) {
				t.Error(a, q, value, b, c, e, f)
			}
		}
	}
}

// P14.7: among all strings of few qubits, by all products.
func TestMemberOfAll(t *testing.T) {
	chance := rand.New(rand.NewSource(1415))
	for n := range 4 {
		for range 12 {
			a := anyTableau(chance, n)
			counts := map[int]int{}
			for _, p := range signedStrings(n) {
				is, e := tableau.Member(a, p)
				wantNumber(t, fmt.Sprint("Member ", a, p), is, e, slowMember(a, p), api.OK)
				counts[is]++
			}
			if counts[1] != 1<<n || counts[-1] != 1<<n {
				t.Error(n, counts)
			}
		}
	}
}

// P14.7: products of many, their negatives, and what is none.
func TestMemberOfMany(t *testing.T) {
	chance := rand.New(rand.NewSource(1416))
	for n := range 65 {
		a := anyTableau(chance, n)
		for range 10 {
			p := api.Pauli{N: n}
			for _, i := range choice(chance, n) {
				p = mul(p, a.Stab[i])
			}
			is, e := tableau.Member(a, p)
			wantNumber(t, "a product", is, e, 1, api.OK)
			is, e = tableau.Member(a, negative(p))
			wantNumber(t, "its negative", is, e, -1, api.OK)
			if n == 0 {
				continue
			}
			i := chance.Intn(n)
			p = mul(p, a.Destab[i])
			p.Phase &= 2
			is, e = tableau.Member(a, p)
			wantNumber(t, "with a destabilizer", is, e, 0, api.OK)
		}
	}
}

// noStrings are strings that a tableau of n qubits may not be asked of.
func noStrings(n int) []api.Pauli {
	l := []api.Pauli{
		{N: n, Phase: 1}, {N: n, Phase: 3}, {N: n, Phase: 4}, {N: n, Phase: -1}, {N: n, Phase: -2}, {N: n, Phase: 6}, {N: n, Phase: least}, {N: n, Phase: great - 1},
		{N: n - 1}, {N: n + 1}, {N: -1}, {N: 65}, {N: least}, {N: great}, {N: n + 64}, {N: n + 1<<32},
	}
	if n < 64 {
		l = append(l, api.Pauli{N: n, X: 1 << n}, api.Pauli{N: n, Z: 1 << n}, api.Pauli{N: n, X: 1 << 63})
	}
	return l
}

// P14.7, P14.11: strings that are not right, of another length, or with no sign alone.
func TestStringsRefused(t *testing.T) {
	chance := rand.New(rand.NewSource(1417))
	for _, n := range sizes() {
		a := anyTableau(chance, n)
		for _, p := range noStrings(n) {
			is, e := tableau.Member(a, p)
			wantNumber(t, fmt.Sprint("Member ", p), is, e, 0, api.ErrArg)
			b, many, e := tableau.Force(a, p)
			wantNone(t, fmt.Sprint("Force ", p), b, e, api.ErrArg)
			wantNumber(t, "Force", many, e, 0, api.ErrArg)
		}
	}
}

// wantForce compares with the slow one.
func wantForce(t *testing.T, a api.Tableau, p api.Pauli) {
	t.Helper()
	wanted, many := slowForce(a, p)
	b, got, e := tableau.Force(a, p)
	if many < 0 {
		wantNone(t, fmt.Sprint("Force ", p), b, e, api.ErrNothing)
		wantNumber(t, "Force", got, e, 0, api.ErrNothing)
		return
	}
	want(t, fmt.Sprint("Force ", p), b, e, wanted)
	wantNumber(t, "Force", got, e, many, api.OK)
	wantRight(t, "Force", b)
	is, e := tableau.Member(b, p)
	wantNumber(t, "what was forced", is, e, 1, api.OK)
}

// P14.11: all strings of few qubits, and strings of many, products among them.
func TestForce(t *testing.T) {
	chance := rand.New(rand.NewSource(1418))
	for n := range 4 {
		for range 8 {
			a := anyTableau(chance, n)
			for _, p := range signedStrings(n) {
				wantForce(t, a, p)
			}
		}
	}
	for n := range 65 {
		a := anyTableau(chance, n)
		for range 4 {
			wantForce(t, a, anyString(chance, n))
			p := api.Pauli{N: n}
			for _, i := range choice(chance, n) {
				p = mul(p, a.Stab[i])
			}
			wantForce(t, a, p)
			wantForce(t, a, negative(p))
		}
	}
}

// P14.11: by hand.
func TestForceByHand(t *testing.T) {
	for _, c := range []struct {
		a      api.Tableau
		p      string
		wanted api.Tableau
		many   int
	}{
		{fresh(2), "+II", fresh(2), 0},
		{fresh(2), "+ZZ", fresh(2), 0},
		{fresh(2), "-XX", of("-XX", "+ZZ", "+ZI", "+IX"), 1},
		{fresh(2), "+IY", of("+ZI", "+IY", "+XI", "+IZ"), 1},
		{bell(), "+ZI", of("+ZI", "+ZZ", "+XX", "+IX"), 1},
		{bell(), "-XI", of("+XX", "-XI", "-IZ", "+ZZ"), 1},
		{bell(), "-YY", bell(), 0},
	} {
		b, many, e := tableau.Force(c.a, read(c.p))
		want(t, c.p, b, e, c.wanted)
		wantNumber(t, c.p, many, e, c.many, api.OK)
	}
	for _, c := range []struct {
		a api.Tableau
		p string
	}{{fresh(0), "-"}, {fresh(2), "-II"}, {fresh(2), "-ZZ"}, {bell(), "+YY"}, {bell(), "-II"}} {
		b, many, e := tableau.Force(c.a, read(c.p))
		wantNone(t, c.p, b, e, api.ErrNothing)
		wantNumber(t, c.p, many, e, 0, api.ErrNothing)
	}
}

// P14.11: Project is Force of Z at the qubit.
func TestProjectIsForce(t *testing.T) {
	chance := rand.New(rand.NewSource(1419))
	for _, n := range sizes()[1:] {
		a := anyTableau(chance, n)
		for q := range n {
			for value := range 2 {
				b, e := tableau.Project(a, q, value)
				c, _, f := tableau.Force(a, letterZ(n, q, value))
				if e != f || !sameTableau(b, c) {
					t.Error(n, q, value, e, f)
				}
			}
		}
	}
}

// P14.12: the squared magnitude of the states' inner product.
func TestOverlapByStates(t *testing.T) {
	chance := rand.New(rand.NewSource(1420))
	nothing := 0
	for n := range 7 {
		for range 60 {
			a, b := driven(chance, n, chance.Intn(2*n+1)), driven(chance, n, chance.Intn(2*n+1))
			if chance.Intn(3) == 0 {
				a = anyTableau(chance, n)
			}
			if n > 0 {
				b.Stab[chance.Intn(n)].Phase ^= 2
			}
			s, r := slowState(a), slowState(b)
			many, e := tableau.Overlap(a, b)
			back, f := tableau.Overlap(b, a)
			wanted := math.Ldexp(1, -many)
			if many == -1 {
				wanted = 0
				nothing++
			}
			if e != api.OK || f != api.OK || back != many || inner(s, r) != wanted*weight(s)*weight(r) {
				t.Error(a, b, many, back, e, f, inner(s, r), weight(s), weight(r))
			}
		}
	}
	if nothing < 20 || nothing > 350 {
		t.Error("too few of some:", nothing)
	}
}

// P14.12: by hand, of up to 64 qubits.
func TestOverlapByHand(t *testing.T) {
	for n := range 65 {
		turned := fresh(n)
		turned.Stab, turned.Destab = turned.Destab, turned.Stab
		many, e := tableau.Overlap(fresh(n), fresh(n))
		wantNumber(t, "one and the same", many, e, 0, api.OK)
		many, e = tableau.Overlap(fresh(n), turned)
		wantNumber(t, "all of Z, and all of X", many, e, n, api.OK)
		for q := range n {
			a := fresh(n)
			a.Stab[q].Phase = 2
			many, e := tableau.Overlap(fresh(n), a)
			wantNumber(t, "one qubit turned", many, e, -1, api.OK)
			many, e = tableau.Overlap(a, turned)
			wantNumber(t, "one turned, and all of X", many, e, n, api.OK)
		}
	}
	many, e := tableau.Overlap(bell(), of("+ZZ", "-XX", "+XI", "+IZ"))
	wantNumber(t, "Bell's, the other sign", many, e, -1, api.OK)
	many, e = tableau.Overlap(bell(), of("-ZZ", "+XX", "+XI", "+IZ"))
	wantNumber(t, "Bell's, the other bits", many, e, -1, api.OK)
}

// P14.12: tableaux of unlike numbers of qubits.
func TestOverlapRefuses(t *testing.T) {
	for _, n := range sizes() {
		for _, m := range sizes() {
			if n != m {
				many, e := tableau.Overlap(fresh(n), fresh(m))
				wantNumber(t, fmt.Sprint("Overlap ", n, m), many, e, 0, api.ErrArg)
			}
		}
	}
}
