package expect_test

import (
	"math/rand"
	"testing"

	"phasor/api"
	"phasor/gate"
	"phasor/pauli"
)

// P22.5: by hand: forth from the first gate on, back from the last one, through inverses.
func TestCarriedByHand(t *testing.T) {
	for _, c := range []struct {
		qubits         int
		text, p        string
		toFore, toBack string
	}{
		{0, "", "+", "+", "+"}, {0, "", "-i", "-i", "-i"}, {1, "", "-Y", "-Y", "-Y"}, {1, "barrier 0", "+iX", "+iX", "+iX"},
		{1, "x 0", "+Z", "-Z", "-Z"}, {1, "z 0", "+iX", "-iX", "-iX"}, {1, "s 0", "+X", "+Y", "-Y"}, {1, "s 0", "+Y", "-X", "+X"}, {1, "sdg 0", "+X", "-Y", "+Y"},
		{1, "sx 0", "+Z", "-Y", "+Y"}, {1, "sxdg 0", "+Z", "+Y", "-Y"}, {1, "sy 0", "+X", "-Z", "+Z"}, {1, "sydg 0", "-X", "-Z", "+Z"}, {1, "sy 0", "-iI", "-iI", "-iI"},
		{1, "sx 0; s 0", "+Z", "+X", "+Y"}, {1, "s 0; sx 0", "+X", "+Z", "-Y"}, {1, "sx 0; barrier 0; s 0; barrier 0", "+X", "+Y", "+Z"},
		{2, "cx 0 1", "+XI", "+XX", "+XX"}, {2, "cx 1 0", "+XI", "+XI", "+XI"}, {2, "cz 0 1", "+XX", "+YY", "+YY"}, {2, "swap 0 1", "+iXZ", "+iZX", "+iZX"}, {2, "iswap 0 1", "+XI", "+ZY", "-ZY"}, {2, "iswapdg 0 1", "+XI", "-ZY", "+ZY"}, {2, "hh 0 1", "-YX", "+YZ", "+YZ"},
		{3, "cx 0 1; cx 1 2", "+XII", "+XXX", "+XXI"}, {3, "cx 0 1; cx 1 2", "+IIZ", "+IZZ", "+ZZZ"}, {3, "swap 0 1; swap 1 2", "+XYZ", "+YZX", "+ZXY"}, {3, "s 2; hh 2 0; barrier 1 0; sx 0", "-ZIX", "+XIY", "+YIZ"},
	} {
		forth.want(t, gates(c.qubits, c.text), read(c.p), read(c.toFore))
		back.want(t, gates(c.qubits, c.text), read(c.p), read(c.toBack))
	}
}

// P22.5: all strings of up to two qubits through each gate, and strings of three through circuits at chance, held against matrices.
func TestCarriedByMatrices(t *testing.T) {
	chance := rand.New(rand.NewSource(2207))
	for _, k := range gate.Kinds() {
		for _, qubits := range [][]int{{0, 1}, {1, 0}} {
			if gate.Clifford(k) {
				for _, p := range all(2) {
					wantCarried(t, of(2, 0, do(k, qubits[:gate.Arity(k)]...)), p)
				}
			}
		}
	}
	for range 400 {
		n := chance.Intn(4)
		wantCarried(t, wish{qubits: n, ops: chance.Intn(16), halves: 10, clifford: true}.drawn(chance), anyString(chance, n))
	}
}

func wantCarried(t *testing.T, c api.Circuit, p api.Pauli) {
	t.Helper()
	u := circuitMatrix(c)
	if q := forth.answer(t, c, p); !between(u, p, q) {
		t.Errorf("forth through %v of %v: %v", c, p, q)
	}
	if q := back.answer(t, c, p); !between(u, q, p) {
		t.Errorf("back through %v of %v: %v", c, p, q)
	}
}

// P22.5: of up to 64 qubits, against layer 14, which carries strings in its own way.
func TestCarriedByTableaux(t *testing.T) {
	chance := rand.New(rand.NewSource(2208))
	for n := range 65 {
		for range 4 {
			c := wish{qubits: n, ops: chance.Intn(4 * (n + 1)), halves: great, clifford: true}.drawn(chance)
			p := anyString(chance, n)
			forth.want(t, c, p, slowForth(c, p))
			back.want(t, c, p, slowBack(c, p))
		}
	}
}

// P22.5: as many operations as there may be.
func TestCarriedThroughMost(t *testing.T) {
	chance := rand.New(rand.NewSource(2209))
	c := wish{qubits: 64, ops: api.MaxOps, halves: great, clifford: true}.drawn(chance)
	for range 3 {
		p := anyString(chance, 64)
		forth.want(t, c, p, slowForth(c, p))
		back.want(t, c, p, slowBack(c, p))
	}
}

// P22.5: a circuit that may not be is told of ahead of all else.
func TestCarriersRefuseWrongCircuits(t *testing.T) {
	for _, f := range carriers() {
		for _, c := range wrongCircuits() {
			for _, p := range []api.Pauli{{}, {N: 1}, {N: 2}, {N: c.Qubits}, {N: -1}, {N: 1, Phase: 4}} {
				f.refuses(t, "a wrong circuit", c, p, api.ErrCircuit)
			}
		}
	}
}

// unfit may be, but strings can't be carried through them.
func unfit() []api.Circuit {
	return []api.Circuit{
		of(1, 1, measure(0, 0)), of(1, 0, reset(0)), of(1, 1, when(0, 0, do(api.GateX, 0))), of(1, 1, when(0, 1, do(api.GateI, 0))),
		of(2, 1, do(api.GateCX, 0, 1), measure(1, 0)), of(2, 1, reset(0), do(api.GateCX, 0, 1)), of(2, 64, do(api.GateX, 0), when(63, 0, do(api.GateZ, 1)), do(api.GateX, 0)),
		of(3, 0, do(api.GateCCX, 0, 1, 2)), of(3, 0, do(api.GateCCZ, 2, 1, 0)), of(3, 0, do(api.GateCSw, 0, 1, 2)), of(64, 0, do(api.GateX, 0), do(api.GateCCX, 63, 62, 61)), of(3, 1, do(api.GateCCX, 0, 1, 2), measure(0, 0)),
		of(6, 0, append(times(4095, barrier(0, 1)), reset(5))...), of(3, 1, when(0, 1, do(api.GateCCX, 0, 1, 2))),
	}
}

// P22.5: a circuit that is not Unitary, or not Clifford, is told of ahead of the string.
func TestCarriersRefuseCircuits(t *testing.T) {
	for _, f := range carriers() {
		for _, c := range unfit() {
			for _, p := range []api.Pauli{{N: c.Qubits}, {N: c.Qubits, Phase: 4}, {N: c.Qubits + 1}, {N: -1}} {
				f.refuses(t, "a circuit that does not fit", c, p, api.ErrExpect)
			}
		}
	}
}

// P22.5: strings that are not right, or of another number of qubits, of circuits of no gates and of some.
func TestCarriersRefuseStrings(t *testing.T) {
	for _, f := range carriers() {
		for n := range 65 {
			c := of(n, 0)
			if n > 1 {
				c = of(n, 1, do(api.GateCX, 0, n-1), barrier(0), do(api.GateV, 1))
			}
			for other := range 65 {
				if other != n {
					f.refuses(t, "another number", c, api.Pauli{N: other}, api.ErrPauli)
				}
			}
			for _, p := range wrongStrings() {
				f.refuses(t, "a wrong string", c, p, api.ErrPauli)
			}
			f.want(t, c, api.Pauli{N: n, Phase: 3}, api.Pauli{N: n, Phase: 3})
		}
	}
}

// P22.5: bits do not count, nor does whether a list is nil.
func TestCarriersTakeBits(t *testing.T) {
	for _, f := range carriers() {
		f.want(t, of(1, 64, do(api.GateX, 0)), read("+Z"), read("-Z"))
		f.want(t, api.Circuit{Qubits: 1, Ops: []api.Op{}}, read("+Z"), read("+Z"))
		f.want(t, api.Circuit{}, api.Pauli{}, api.Pauli{})
	}
}

// P22.5: phases of all four kinds are carried along.
func TestCarriedPhases(t *testing.T) {
	chance := rand.New(rand.NewSource(2210))
	for range 100 {
		n := 1 + chance.Intn(20)
		c, p := wish{qubits: n, ops: 20, halves: 20, clifford: true}.drawn(chance), anyString(chance, n)
		for _, f := range carriers() {
			q := f.answer(t, c, p)
			turn := chance.Intn(4)
			p, q := turnedString(p, turn), turnedString(q, turn)
			f.want(t, c, p, q)
			if pauli.Hermitian(p) != pauli.Hermitian(q) {
				t.Error(p, q)
			}
		}
	}
}

func turnedString(p api.Pauli, turn int) api.Pauli {
	p.Phase = (p.Phase + turn) % 4
	return p
}
