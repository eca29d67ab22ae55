package apply_test

import (
	"math/rand"
	"testing"

	"phasor/api"
	"phasor/apply"
	"phasor/gate"
	"phasor/matrix"
	"phasor/state"
)

// P10.6: column k is what becomes of the basis state k.
func TestUnitary(t *testing.T) {
	chance := rand.New(rand.NewSource(1009))
	for n := range 7 {
		for many := range 20 {
			c := api.Circuit{Qubits: n, Bits: chance.Intn(3)}
			for range many {
				if n == 0 {
					break
				}
				if chance.Intn(5) == 0 {
					c.Ops = append(c.Ops, api.Op{Kind: api.OpBarrier, Qubits: chance.Perm(n)[:1+chance.Intn(n)], If: -1})
				} else {
					c.Ops = append(c.Ops, anyOp(chance, n))
				}
			}
			m, e := apply.Unitary(c)
			if e != api.OK || m.N != 1<<n || len(m.E) != m.N*m.N {
				t.Fatal(n, many, e, m.N, len(m.E))
			}
			for column := range m.N {
				s := make([]complex128, m.N)
				s[column] = 1
				for _, o := range c.Ops {
					if o.Kind == api.OpGate {
						s = slowGate(s, o.Gate, o.Qubits)
					}
				}
				for row, z := range s {
					if !sameNumber(m.E[m.N*row+column], z) {
						t.Fatalf("%d qubits: row %d, column %d: %v, not %v", n, row, column, m.E[m.N*row+column], z)
					}
				}
			}
			if !matrix.Unitary(m) {
				t.Errorf("%d qubits: not unitary", n)
			}
		}
	}
}

// P10.6: of one gate it is layer 6's matrix, and laid among more qubits layer 7's Place of it.
func TestUnitaryOfOneGate(t *testing.T) {
	for _, k := range gate.Kinds() {
		wanted, _ := gate.Matrix(k)
		for n := gate.Arity(k); n <= 5; n++ {
			for _, qubits := range choices(n, gate.Arity(k)) {
				m, e := apply.Unitary(api.Circuit{Qubits: n, Ops: []api.Op{op(k, qubits...)}})
				placed, _ := matrix.Place(wanted, qubits, n)
				want(t, gate.Name(k), m.E, e, placed.E...)
			}
		}
	}
}

// P10.6: a circuit that may not be ahead of one that is not unitary ahead of one that is too large.
func TestUnitaryRefuses(t *testing.T) {
	measure := api.Op{Kind: api.OpMeasure, Qubits: []int{0}, If: -1}
	reset := api.Op{Kind: api.OpReset, Qubits: []int{0}, If: -1}
	asked := api.Op{Kind: api.OpGate, Gate: api.GateX, Qubits: []int{0}, If: 0, When: 1}
	many := make([]api.Op, 4097)
	for i := range many {
		many[i] = op(api.GateX, 0)
	}
	for _, c := range []struct {
		what   string
		c      api.Circuit
		wanted api.Errno
	}{
		{"qubits below 0", api.Circuit{Qubits: -1}, api.ErrCircuit},
		{"too many qubits", api.Circuit{Qubits: 65}, api.ErrCircuit},
		{"bits below 0", api.Circuit{Qubits: 1, Bits: -1}, api.ErrCircuit},
		{"too many operations", api.Circuit{Qubits: 1, Ops: many}, api.ErrCircuit},
		{"a wrong qubit", api.Circuit{Qubits: 1, Ops: []api.Op{op(api.GateX, 1)}}, api.ErrCircuit},
		{"a wrong qubit behind a measurement", api.Circuit{Qubits: 7, Bits: 1, Ops: []api.Op{measure, op(api.GateX, 7)}}, api.ErrCircuit},
		{"a barrier that may not be", api.Circuit{Qubits: 1, Ops: []api.Op{{Kind: api.OpBarrier}}}, api.ErrCircuit},
		{"a measurement into no bit", api.Circuit{Qubits: 1, Ops: []api.Op{measure}}, api.ErrCircuit},
		{"a measurement", api.Circuit{Qubits: 1, Bits: 1, Ops: []api.Op{op(api.GateX, 0), measure}}, api.ErrApply},
		{"a reset", api.Circuit{Qubits: 7, Ops: []api.Op{reset}}, api.ErrApply},
		{"a condition", api.Circuit{Qubits: 64, Bits: 1, Ops: []api.Op{asked}}, api.ErrApply},
		{"seven qubits", api.Circuit{Qubits: 7, Ops: []api.Op{op(api.GateX, 6)}}, api.ErrBig},
		{"seven qubits, and nothing done", api.Circuit{Qubits: 7}, api.ErrBig},
		{"the most qubits", api.Circuit{Qubits: 64}, api.ErrBig},
		{"six qubits", api.Circuit{Qubits: 6, Ops: many[:4096]}, api.OK},
		{"none", api.Circuit{}, api.OK},
	} {
		m, e := apply.Unitary(c.c)
		if e != c.wanted || e != api.OK && (m.N != 0 || len(m.E) != 0) {
			t.Errorf("%s: error %d, not %d; %d rows", c.what, e, c.wanted, m.N)
		}
	}
	m, _ := apply.Unitary(api.Circuit{})
	want(t, "of no qubit", m.E, api.OK, 1)
	m, _ = apply.Unitary(api.Circuit{Qubits: 6})
	for k := range 64 {
		basis, _ := state.Basis(6, k)
		want(t, "of nothing", m.E[64*k:64*(k+1)], api.OK, basis...)
	}
}
