package density_test

import (
	"math/rand"
	"testing"

	"phasor/api"
	"phasor/gate"
	"phasor/odds"
)

// P23.3: by hand: the columns go through the gate, the rows through its conjugate.
func TestGateByHand(t *testing.T) {
	for _, c := range []struct {
		m      api.Matrix
		kind   api.GateKind
		qubits []int
		wanted api.Matrix
	}{
		{rows(1, 2, 3, 4), api.GateI, []int{0}, rows(1, 2, 3, 4)}, {rows(1, 2, 3, 4), api.GateX, []int{0}, rows(4, 3, 2, 1)}, {rows(1, 2, 3, 4), api.GateZ, []int{0}, rows(1, -2, -3, 4)}, {rows(1, 2, 3, 4), api.GateY, []int{0}, rows(4, -3, -2, 1)},
		{rows(1, 2, 3, 4), api.GateS, []int{0}, rows(1, -2i, 3i, 4)}, {rows(1, 2, 3, 4), api.GateSdg, []int{0}, rows(1, 2i, -3i, 4)}, {rows(1i, 0, 0, 0), api.GateX, []int{0}, rows(0, 0, 0, 1i)},
		{rows(1, 0, 0, 0), api.GateV, []int{0}, rows(0.5, 0.5i, -0.5i, 0.5)}, {rows(1, 0, 0, 0), api.GateVdg, []int{0}, rows(0.5, -0.5i, 0.5i, 0.5)}, {rows(1, 0, 0, 0), api.GateW, []int{0}, rows(0.5, 0.5, 0.5, 0.5)}, {rows(1, 0, 0, 0), api.GateWdg, []int{0}, rows(0.5, -0.5, -0.5, 0.5)},
		{rows(0, 1, 0, 0), api.GateV, []int{0}, rows(0.5i, 0.5, 0.5, -0.5i)}, {rows(0, 1i, 0, 0), api.GateW, []int{0}, rows(-0.5i, 0.5i, -0.5i, 0.5i)},
		{unit(4, 1, 2), api.GateX, []int{1}, unit(4, 3, 0)}, {unit(4, 1, 2), api.GateCX, []int{0, 1}, unit(4, 3, 2)}, {unit(4, 1, 2), api.GateCX, []int{1, 0}, unit(4, 1, 3)}, {unit(4, 1, 2), api.GateSwap, []int{0, 1}, unit(4, 2, 1)},
		{unit(8, 3, 5), api.GateCCX, []int{0, 1, 2}, unit(8, 7, 5)}, {unit(8, 3, 5), api.GateCSw, []int{2, 0, 1}, unit(8, 3, 6)},
		{rows(complex(minus0, minus0), 0, 0, 0), api.GateI, []int{0}, rows(0, 0, 0, 0)},
	} {
		gateOn.want(t, given{m: c.m, kind: c.kind, qubits: c.qubits}, told{m: c.wanted})
	}
}

// P23.3: to the bit, of each gate, of all sizes and floats of all kinds.
func TestGate(t *testing.T) {
	chance := rand.New(rand.NewSource(2308))
	for n := range 7 {
		for _, k := range gate.Kinds() {
			for range 1 + 24>>n {
				for _, draw := range draws() {
					if gate.Arity(k) <= n {
						gateOn.wantSlow(t, given{m: anyMatrix(chance, n, draw), kind: k, qubits: chance.Perm(n)[:gate.Arity(k)]})
					}
				}
			}
		}
	}
}

// P23.3: what is rounded tells that columns go first.
func TestGateTakesColumnsFirst(t *testing.T) {
	for _, kind := range []api.GateKind{api.GateV, api.GateVdg, api.GateW, api.GateWdg} {
		gateOn.wantSlow(t, given{m: rows(1<<53, 1, 1, -1<<53), kind: kind, qubits: []int{0}})
		gateOn.wantSlow(t, given{m: rows(1<<53, 1, -1<<53, 1i), kind: kind, qubits: []int{0}})
	}
	m := gateOn.answer(t, given{m: rows(1<<53, -1<<53, 1, 0), kind: api.GateW, qubits: []int{0}}).m
	if real(m.E[3]) != 0 {
		t.Error("rows went first:", m)
	}
}

// P23.3: no such gate, and qubits that it may not have.
func TestGateRefuses(t *testing.T) {
	for n := range 7 {
		for _, kind := range []api.GateKind{0, -1, 21, 22, 1 << 32, great, least} {
			for _, qubits := range [][]int{nil, {0}, {0, 1}, {0, 1, 2}} {
				gateOn.refuses(t, "no gate", given{m: blank(1 << n), kind: kind, qubits: qubits}, api.ErrDensity)
			}
		}
		for _, kind := range gate.Kinds() {
			for _, qubits := range append(wrongQubits(n), nil, []int{0, 1, 2, 3}) {
				gateOn.refuses(t, "wrong qubits", given{m: blank(1 << n), kind: kind, qubits: qubits}, api.ErrDensity)
			}
			for many := range n + 1 {
				if many != gate.Arity(kind) {
					gateOn.refuses(t, "too many or too few", given{m: blank(1 << n), kind: kind, qubits: rest(nil, many)}, api.ErrDensity)
				}
			}
		}
	}
}

// P23.4: by hand: K stands on the left, its adjoint on the right, and what comes is added.
func TestKrausByHand(t *testing.T) {
	m := rows(1, 2, 3, 4)
	for _, c := range []struct {
		l      []api.Matrix
		wanted api.Matrix
	}{
		{[]api.Matrix{rows(1, 0, 0, 1)}, m}, {[]api.Matrix{rows(2i, 0, 0, 2i)}, rows(4, 8, 12, 16)}, {[]api.Matrix{rows(0, 1, 1, 0)}, rows(4, 3, 2, 1)}, {[]api.Matrix{rows(0, 1, 0, 0)}, rows(4, 0, 0, 0)}, {[]api.Matrix{rows(0, 0, 1, 0)}, rows(0, 0, 0, 1)},
		{[]api.Matrix{rows(1, 0, 0, 1i)}, rows(1, -2i, 3i, 4)}, {[]api.Matrix{rows(1, 1, 0, 0)}, rows(10, 0, 0, 0)}, {[]api.Matrix{rows(1, 1i, 0, 0)}, rows(5+1i, 0, 0, 0)}, {[]api.Matrix{rows(0, 0, 0, 0)}, blank(2)},
		{[]api.Matrix{rows(1, 0, 0, 0), rows(0, 1, 0, 0)}, rows(5, 0, 0, 0)}, {[]api.Matrix{rows(1, 0, 0, 0), rows(0, 0, 0, 1)}, rows(1, 0, 0, 4)}, {[]api.Matrix{rows(1, 0, 0, 1), rows(1, 0, 0, 1), rows(1, 0, 0, 1)}, rows(3, 6, 9, 12)},
	} {
		if answer := kraus.answer(t, given{m: m, l: c.l}).m; !equal(answer, c.wanted) {
			t.Errorf("Kraus by %v: %v, not %v", c.l, answer, c.wanted)
		}
	}
	one := rows(1)
	kraus.want(t, given{m: one, l: []api.Matrix{rows(1), rows(1 << 27), rows(1 << 27)}}, told{m: rows(1 << 55)})
	kraus.want(t, given{m: one, l: []api.Matrix{rows(1 << 27), rows(1), rows(1)}}, told{m: rows(1 << 54)})
	kraus.want(t, given{m: rows(1e-200), l: []api.Matrix{rows(1e200)}}, told{m: rows(1e200)})
	kraus.want(t, given{m: rows(1e200), l: []api.Matrix{rows(1e200)}}, told{m: rows(complex(inf, nan))})
}

// P23.4: to the bit, of matrices that need not be any of physics.
func TestKraus(t *testing.T) {
	chance := rand.New(rand.NewSource(2309))
	for n := range 6 {
		for range 3 + 60>>n {
			for _, draw := range draws() {
				kraus.wantSlow(t, given{m: anyMatrix(chance, n, draw), l: anyMatrices(chance, 1+chance.Intn(4), n, draw)})
			}
		}
	}
	kraus.wantSlow(t, given{m: anyMatrix(chance, 6, tameFloat), l: anyMatrices(chance, 2, 6, tameFloat)})
	kraus.wantSlow(t, given{m: anyMatrix(chance, 0, tameFloat), l: anyMatrices(chance, 2000, 0, tameFloat)})
}

// P23.4: one that is no right matrix, or of another number of rows, in each place.
func TestKrausRefuses(t *testing.T) {
	for _, wrong := range append(noDensities(), blank(1), blank(2), blank(8), blank(64)) {
		for place := range 3 {
			l := []api.Matrix{blank(4), blank(4), blank(4)}
			l[place] = wrong
			kraus.refuses(t, "a matrix that does not fit", given{m: blank(4), l: l}, api.ErrDensity)
		}
		kraus.refuses(t, "a matrix that does not fit alone", given{m: blank(4), l: []api.Matrix{wrong}}, api.ErrDensity)
	}
	for n := range 7 {
		kraus.refuses(t, "none", given{m: blank(1 << n)}, api.ErrDensity)
		kraus.refuses(t, "none", given{m: blank(1 << n), l: []api.Matrix{}}, api.ErrDensity)
	}
}

// P23.4: measuring and resetting are channels: what comes is the mix of what layer 11 projects and settles.
func TestKrausMeasures(t *testing.T) {
	chance := rand.New(rand.NewSource(2310))
	zero, one, down := rows(1, 0, 0, 0), rows(0, 0, 0, 1), rows(0, 1, 0, 0)
	for n := 1; n < 5; n++ {
		for range 20 {
			s, q := exact(chance, n, 12), chance.Intn(n)
			m := from.answer(t, given{s: s}).m
			var projected, settled []api.Matrix
			for value := range 2 {
				a, _ := odds.Project(s, q, value)
				b, _ := odds.Settle(s, q, value)
				projected = append(projected, from.answer(t, given{s: a}).m)
				settled = append(settled, from.answer(t, given{s: b}).m)
			}
			wanted := mix.answer(t, given{l: projected}).m
			if answer := kraus.answer(t, given{m: m, l: placed(n, q, zero, one)}).m; !equal(answer, wanted) {
				t.Fatalf("%v, qubit %d measured: %v, not %v", s, q, answer, wanted)
			}
			wanted = mix.answer(t, given{l: settled}).m
			if answer := kraus.answer(t, given{m: m, l: placed(n, q, zero, down)}).m; !equal(answer, wanted) {
				t.Fatalf("%v, qubit %d reset: %v, not %v", s, q, answer, wanted)
			}
		}
	}
}
