package gate_test

import (
	"slices"
	"testing"

	"phasor/api"
	"phasor/gate"
)

// The chapter's examples, as they stand there.

func TestExampleOne(t *testing.T) {
	if k, e := gate.Of("sx"); k != api.GateV || e != api.OK {
		t.Errorf("Of sx: %d %d", k, e)
	}
	if s := gate.Name(21); s != "" {
		t.Errorf("Name of 21: %q", s)
	}
	m, e := gate.Matrix(api.GateY)
	if e != api.OK {
		t.Errorf("Matrix of y: %d", e)
	}
	wantMatrix(t, "y", m, []complex128{0, complex(0, -1), complex(0, 1), 0})
	if to, turn, ok := gate.Moves(api.GateY, 1); to != 0 || turn != 3 || !ok {
		t.Errorf("Moves of y: %d %d %t", to, turn, ok)
	}
	if to, turn, ok := gate.Moves(api.GateCX, 1); to != 3 || turn != 0 || !ok {
		t.Errorf("Moves of cx: %d %d %t", to, turn, ok)
	}
	if to, turn, ok := gate.Moves(api.GateV, 0); to != 0 || turn != 0 || ok {
		t.Errorf("Moves of sx: %d %d %t", to, turn, ok)
	}
}

func TestExampleTwo(t *testing.T) {
	wantKind := func(first, then, wanted api.GateKind, is bool) {
		t.Helper()
		if k, ok := gate.Compose(first, then); k != wanted || ok != is {
			t.Errorf("%d behind %d: %d %t", then, first, k, ok)
		}
	}
	wantKind(api.GateV, api.GateV, api.GateX, true)
	wantKind(api.GateS, api.GateSdg, api.GateI, true)
	wantKind(api.GateCX, api.GateCX, 0, false)
}

func TestExampleThree(t *testing.T) {
	wantWord := func(wanted []api.GateKind, errno api.Errno, e ...complex128) {
		t.Helper()
		if l, got := gate.Word(api.Matrix{N: 2, E: e}); !slices.Equal(l, wanted) || got != errno {
			t.Errorf("Word of %v: %v %d", e, l, got)
		}
	}
	wantWord([]api.GateKind{api.GateY}, api.OK, 0, -1i, 1i, 0)
	wantWord([]api.GateKind{api.GateZ, api.GateX}, api.OK, 0, -1, 1, 0)
	wantWord(nil, api.ErrGate, 2, 0, 0, 1)
	wantWord(nil, api.ErrGate, 1, 0, 2, 1)
}

func TestExampleFour(t *testing.T) {
	if e := gate.Check(api.GateCX, []int{0, 0}, 2); e != api.ErrWire {
		t.Errorf("Check: %d", e)
	}
	wantCommute := func(a api.GateKind, aq []int, b api.GateKind, bq []int, wanted bool) {
		t.Helper()
		if is, e := gate.Commute(a, aq, b, bq); is != wanted || e != api.OK {
			t.Errorf("%d %v, %d %v: %t %d", a, aq, b, bq, is, e)
		}
	}
	wantCommute(api.GateX, []int{0}, api.GateCX, []int{0, 1}, false)
	wantCommute(api.GateX, []int{1}, api.GateCX, []int{0, 1}, true)
	wantCommute(api.GateCZ, []int{0, 1}, api.GateCCZ, []int{1, 2, 3}, true)
}
