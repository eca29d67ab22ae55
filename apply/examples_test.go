package apply_test

import (
	"testing"

	"phasor/api"
	"phasor/apply"
)

// The chapter's examples, as they stand there.

func TestExampleOne(t *testing.T) {
	s, e := apply.Gate([]complex128{1, 0}, api.GateV, []int{0})
	want(t, "sx", s, e, 0.5+0.5i, 0.5-0.5i)
	s, e = apply.Gate(s, api.GateV, []int{0})
	want(t, "once more", s, e, 0, 1)
	s, e = apply.Gate([]complex128{0, 1, 0, 0}, api.GateCX, []int{0, 1})
	want(t, "cx", s, e, 0, 0, 0, 1)
}

func TestExampleTwo(t *testing.T) {
	s, e := apply.Gate([]complex128{complex(minus0, 0), complex(minus0, 0)}, api.GateZ, []int{0})
	want(t, "z", s, e, complex(minus0, 0), 0)
	s, e = apply.Gate([]complex128{0, 1}, api.GateY, []int{0})
	want(t, "y", s, e, complex(0, -1), 0)
}

func TestExampleThree(t *testing.T) {
	s := []complex128{1, 0}
	got, n, e := apply.Ops(s, []api.Op{op(api.GateX, 0), {Kind: api.OpMeasure, Qubits: []int{0}, If: -1}})
	wantError(t, "Ops", got, e, api.ErrApply)
	if n != 1 {
		t.Error("Ops: place", n)
	}
	got, e = apply.Hands(s, api.GateX, []int{0}, 0)
	wantError(t, "Hands", got, e, api.ErrArg)
	got, e = apply.Matrix(s, api.Matrix{N: 2, E: []complex128{1, 0, 0, 1}}, []int{0, 0})
	wantError(t, "Matrix", got, e, api.ErrShape)
}

func TestExampleFour(t *testing.T) {
	m, e := apply.Unitary(api.Circuit{Qubits: 2, Ops: []api.Op{op(api.GateHH, 0, 1)}})
	if m.N != 4 {
		t.Error(m.N, "rows")
	}
	want(t, "Unitary of hh", m.E, e,
		0.5, 0.5, 0.5, 0.5,
		0.5, -0.5, 0.5, -0.5,
		0.5, 0.5, -0.5, -0.5,
		0.5, -0.5, -0.5, 0.5)
}
