package apply_test

import (
	"math/rand"
	"reflect"
	"testing"

	"phasor/api"
	"phasor/apply"
	"phasor/circuit"
)

// barriers holds barriers that no circuit may have, and one that one may.
func barriers() []api.Op {
	return []api.Op{
		{Kind: api.OpBarrier, Qubits: []int{0}, If: -1}, {Kind: api.OpBarrier}, {Kind: api.OpBarrier, Gate: 99, Qubits: []int{-1, 77, 77}, Bit: -3, If: 5, When: 9},
		{Kind: api.OpBarrier, Gate: api.GateX, Qubits: []int{0}, If: -1}, {Kind: api.OpBarrier, If: least},
	}
}

// refused holds operations that no state of n qubits takes.
func refused(n int) []api.Op {
	return []api.Op{
		{}, {Kind: api.OpMeasure, Qubits: []int{0}, If: -1}, {Kind: api.OpReset, Qubits: []int{0}, If: -1}, {Kind: 5, Gate: api.GateX, Qubits: []int{0}, If: -1},
		{Kind: -1, Gate: api.GateX, Qubits: []int{0}, If: -1}, {Kind: 0, Gate: api.GateX, Qubits: []int{0}, If: -1},
		{Kind: api.OpGate, Gate: api.GateX, Qubits: []int{0}}, {Kind: api.OpGate, Gate: api.GateX, Qubits: []int{0}, If: 3, When: 1},
		{Kind: api.OpGate, Gate: api.GateX, Qubits: []int{0}, If: -2}, {Kind: api.OpGate, Gate: api.GateX, Qubits: []int{0}, If: least},
		op(0, 0), op(21, 0), op(-1, 0), op(api.GateX), op(api.GateX, n), op(api.GateX, -1), op(api.GateX, 0, 1), op(api.GateCX, 0, 0), op(api.GateCCX, 0, 1, n),
	}
}

// row is a row of operations that a state of n qubits takes, and what they come to.
func row(chance *rand.Rand, s []complex128, n, many int) ([]api.Op, [][]complex128) {
	var ops []api.Op
	var come [][]complex128
	for range many {
		if n == 0 || chance.Intn(4) == 0 {
			ops = append(ops, barriers()[chance.Intn(5)])
		} else {
			ops = append(ops, anyOp(chance, n))
			s = slowGate(s, ops[len(ops)-1].Gate, ops[len(ops)-1].Qubits)
		}
		come = append(come, s)
	}
	return ops, come
}

// P10.5: one behind the other, barriers whatever they have, and fields of gates that nothing is said of.
func TestOps(t *testing.T) {
	chance := rand.New(rand.NewSource(1005))
	for n := range 13 {
		for range 1 + 48>>n {
			for _, s := range states(chance, n) {
				ahead := copied(s)
				ops, come := row(chance, s, n, 1+chance.Intn(12))
				before := circuit.Copy(api.Circuit{Ops: ops}).Ops
				got, many, e := apply.Ops(s, ops)
				want(t, "Ops", got, e, come[len(come)-1]...)
				if many != len(ops) {
					t.Errorf("%d operations, not %d", many, len(ops))
				}
				if !sameRow(s, ahead) || !reflect.DeepEqual(ops, before) {
					t.Fatal("an argument was changed")
				}
			}
		}
	}
	s := []complex128{complex(minus0, 1), complex(2, minus0)}
	for _, ops := range [][]api.Op{nil, {}, barriers()} {
		got, many, e := apply.Ops(s, ops)
		want(t, "nothing to do", got, e, s...)
		if got[0] = 9; many != len(ops) || s[0] == 9 {
			t.Error(many, "operations, or memory that is shared")
		}
	}
	got, many, e := apply.Ops(s, []api.Op{{Kind: api.OpGate, Gate: api.GateX, Qubits: []int{0}, Bit: 7, If: -1, When: 5}})
	if want(t, "Bit and When", got, e, 2, 1i); many != 1 {
		t.Error(many)
	}
}

// P10.5: the place of the first that is refused, however many more there are; ahead of all that no state.
func TestOpsRefuse(t *testing.T) {
	chance := rand.New(rand.NewSource(1006))
	for _, s := range wrongs() {
		for _, ops := range [][]api.Op{nil, {op(api.GateX, 0)}, {op(api.GateX, 0), {}}} {
			got, place, e := apply.Ops(s, ops)
			if wantError(t, "no state", got, e, api.ErrState); place != 0 {
				t.Error("place", place)
			}
		}
	}
	for n := range 13 {
		for _, wrong := range refused(n) {
			for _, many := range []int{0, 1, 5} {
				s := tame(chance, 1<<n)
				ahead := copied(s)
				ops, _ := row(chance, s, n, many)
				ops = append(append(ops, wrong), refused(n)[chance.Intn(10)], op(api.GateX, 0))
				got, place, e := apply.Ops(s, ops)
				if wantError(t, "refused", got, e, api.ErrApply); place != many {
					t.Errorf("%v: place %d, not %d", wrong, place, many)
				}
				if !sameRow(s, ahead) {
					t.Fatal("the state was changed")
				}
			}
		}
	}
}

// P10.5: a state takes what an Op of fewer qubits has; 3 qubits' gates not on 2.
func TestOpsGoByTheState(t *testing.T) {
	for n := range 13 {
		s := make([]complex128, 1<<n)
		s[0] = 1
		for q := range 14 {
			_, place, e := apply.Ops(s, []api.Op{op(api.GateX, q)})
			if q < n && (place != 1 || e != api.OK) || q >= n && (place != 0 || e != api.ErrApply) {
				t.Errorf("%d qubits, x on %d: %d, %d", n, q, place, e)
			}
		}
	}
}
