package gate_test

import (
	"math"
	"slices"
	"testing"

	"phasor/api"
	"phasor/gate"
)

// P6.4: every matrix, to the bit: no nought has a sign.
func TestMatrix(t *testing.T) {
	for _, k := range allKinds() {
		m, e := gate.Matrix(k)
		if e != api.OK || m.N != 1<<lineOf(k).qubits {
			t.Errorf("%s: %d rows, %d", lineOf(k).name, m.N, e)
		}
		wantMatrix(t, lineOf(k).name, m, lineOf(k).entries())
	}
}

// R3: a matrix is the caller's own.
func TestMatrixIsNewMemory(t *testing.T) {
	for _, k := range allKinds() {
		m, _ := gate.Matrix(k)
		clear(m.E)
		again, _ := gate.Matrix(k)
		wantMatrix(t, lineOf(k).name, again, lineOf(k).entries())
	}
}

// P6.5: each basis state goes where the matrix's column says, and of halving gates and of other indices nothing is told.
func TestMoves(t *testing.T) {
	for _, k := range allKinds() {
		l := lineOf(k)
		n := 1 << l.qubits
		for index := -3; index < 20; index++ {
			to, turn, ok := gate.Moves(k, index)
			if index < 0 || index >= n || slices.Contains([]string{"sx", "sxdg", "sy", "sydg", "hh"}, l.name) {
				if to != 0 || turn != 0 || ok {
					t.Errorf("%s moves %d: %d %d %t", l.name, index, to, turn, ok)
				}
				continue
			}
			if !ok || to < 0 || to >= n || turn < 0 || turn > 3 {
				t.Errorf("%s moves %d: %d %d %t", l.name, index, to, turn, ok)
				continue
			}
			unit := []complex128{1, 1i, -1, -1i}[turn]
			if l.entries()[n*to+index] != unit {
				t.Errorf("%s moves %d: %d %d", l.name, index, to, turn)
			}
		}
		for _, index := range []int{math.MaxInt, math.MinInt, 1 << 32, -1 << 32} {
			if to, turn, ok := gate.Moves(k, index); to != 0 || turn != 0 || ok {
				t.Errorf("%s moves %d: %d %d %t", l.name, index, to, turn, ok)
			}
		}
	}
}

// P6.5: moves by hand: which bit is which qubit.
func TestMovesByHand(t *testing.T) {
	for _, c := range []struct {
		k                api.GateKind
		index, to, turns int
	}{
		{api.GateI, 1, 1, 0}, {api.GateX, 0, 1, 0}, {api.GateY, 0, 1, 1}, {api.GateZ, 1, 1, 2}, {api.GateZ, 0, 0, 0}, {api.GateS, 1, 1, 1}, {api.GateSdg, 1, 1, 3},
		{api.GateCX, 2, 2, 0}, {api.GateCX, 3, 1, 0}, {api.GateCY, 1, 3, 1}, {api.GateCY, 3, 1, 3}, {api.GateCY, 2, 2, 0}, {api.GateCZ, 3, 3, 2}, {api.GateCZ, 1, 1, 0},
		{api.GateSwap, 1, 2, 0}, {api.GateSwap, 3, 3, 0}, {api.GateISw, 1, 2, 1}, {api.GateISw, 2, 1, 1}, {api.GateISw, 3, 3, 0}, {api.GateISwd, 1, 2, 3}, {api.GateISwd, 0, 0, 0},
		{api.GateCCX, 3, 7, 0}, {api.GateCCX, 7, 3, 0}, {api.GateCCX, 5, 5, 0}, {api.GateCCZ, 7, 7, 2}, {api.GateCCZ, 6, 6, 0},
		{api.GateCSw, 3, 5, 0}, {api.GateCSw, 5, 3, 0}, {api.GateCSw, 2, 2, 0}, {api.GateCSw, 7, 7, 0},
	} {
		if to, turn, ok := gate.Moves(c.k, c.index); to != c.to || turn != c.turns || !ok {
			t.Errorf("%s moves %d: %d %d %t", lineOf(c.k).name, c.index, to, turn, ok)
		}
	}
}
