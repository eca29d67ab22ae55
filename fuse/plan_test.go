package fuse_test

import (
	"math/rand"
	"slices"
	"testing"

	"phasor/api"
)

// P16.1: circuits at chance against the slow plan, by each k; what is handed in is not changed.
func TestPlan(t *testing.T) {
	chance := rand.New(rand.NewSource(1601))
	for range 1500 {
		c := wish{qubits: 1 + chance.Intn(10), bits: chance.Intn(3), ops: chance.Intn(40), halves: 40}.row(chance)
		ahead := deep(c)
		for k := 1; k <= 6; k++ {
			wantPlan(t, "at chance", c, k, slowPlan(c, k)...)
		}
		if !sameCircuit(c, ahead) {
			t.Fatal("the circuit was changed")
		}
	}
}

// P16.1: as many qubits as there may be, up to the highest.
func TestPlanWide(t *testing.T) {
	chance := rand.New(rand.NewSource(1602))
	for range 20 {
		c := wish{qubits: 64, bits: 64, ops: 150, halves: 150}.row(chance)
		for k := 1; k <= 6; k++ {
			wantPlan(t, "wide", c, k, slowPlan(c, k)...)
		}
	}
	var high, alone []api.Op
	var pairs, rows [][]int
	for q := range 64 {
		high, rows = append(high, do(api.GateX, 63-q)), append(rows, []int{q})
		if q%2 == 0 {
			pairs = append(pairs, []int{q, q + 1})
		}
		alone = append(alone, do(api.GateX, 63))
	}
	wantPlan(t, "each qubit", of(64, 0, high...), 1, rows...)
	wantPlan(t, "each qubit", of(64, 0, high...), 2, pairs...)
	wantPlan(t, "the highest", of(64, 0, alone...), 1, slices.Concat(rows...))
}

// P16.1: by hand: what a gate joins where several rows, or none, would do.
func TestPlanByHand(t *testing.T) {
	x, cx, ccx := api.GateX, api.GateCX, api.GateCCX
	for _, w := range []struct {
		what   string
		c      api.Circuit
		k      int
		wanted [][]int
	}{
		{"nothing", of(0, 0), 1, nil},
		{"nothing on qubits", of(64, 64), 6, nil},
		{"id is a gate", of(1, 0, do(api.GateI, 0)), 1, [][]int{{0}}},
		{"the last row, not the first", of(3, 0, do(cx, 0, 1), do(cx, 1, 2), do(x, 1)), 2, [][]int{{0}, {1, 2}}},
		{"the last row of either qubit", of(4, 0, do(cx, 0, 1), do(cx, 2, 3), do(x, 0), do(cx, 3, 2), do(cx, 0, 3)), 2, [][]int{{0, 2}, {1, 3}, {4}}},
		{"the last row is full, the first would fit", of(5, 0, do(x, 0), do(cx, 1, 2), do(cx, 0, 1)), 2, [][]int{{0}, {1}, {2}}},
		{"behind a full row the first that fits", of(7, 0, do(cx, 0, 1), do(cx, 2, 3), do(x, 4), do(x, 5), do(x, 6), do(x, 0)), 2, [][]int{{0, 5}, {1}, {2, 3}, {4}}},
		{"past a row behind t that is full", of(9, 0, do(ccx, 0, 1, 2), do(ccx, 3, 4, 5), do(x, 6), do(cx, 2, 7)), 3, [][]int{{0}, {1}, {2, 3}}},
		{"the first of two behind t that fit", of(12, 0, do(ccx, 0, 1, 2), do(cx, 3, 4), do(ccx, 5, 6, 7), do(ccx, 8, 9, 10), do(cx, 0, 11)), 5, [][]int{{0, 1}, {2, 4}, {3}}},
		{"t itself, though rows behind it fit, too", of(12, 0, do(ccx, 0, 1, 2), do(cx, 3, 4), do(ccx, 5, 6, 7), do(cx, 4, 0)), 5, [][]int{{0, 1, 3}, {2}}},
		{"no row of its qubits: the first that fits", of(5, 0, do(cx, 0, 1), do(cx, 2, 3), do(x, 4)), 3, [][]int{{0, 2}, {1}}},
		{"a qubit that is in the row fills no room", of(4, 0, do(ccx, 0, 1, 2), do(ccx, 2, 1, 3)), 4, [][]int{{0, 1}}},
		{"just one too many", of(4, 0, do(ccx, 0, 1, 2), do(ccx, 2, 1, 3)), 3, [][]int{{0}, {1}}},
		{"more qubits than k, alone", of(3, 0, do(ccx, 0, 1, 2), do(ccx, 0, 1, 2), do(x, 0), do(cx, 0, 1)), 1, [][]int{{0}, {1}, {2}, {3}}},
		{"more qubits than k, between", of(3, 0, do(x, 0), do(cx, 1, 2), do(x, 0), do(x, 2), do(x, 2)), 1, [][]int{{0, 2}, {1}, {3, 4}}},
		{"six qubits in one", of(7, 0, do(ccx, 0, 1, 2), do(ccx, 3, 4, 5), do(x, 6), do(cx, 5, 0)), 6, [][]int{{0, 1, 3}, {2}}},
	} {
		wantPlan(t, w.what, w.c, w.k, w.wanted...)
	}
}

// P16.1: a barrier is a wall for all qubits, whichever it has.
func TestPlanWalls(t *testing.T) {
	x, cx := api.GateX, api.GateCX
	for k := 1; k <= 6; k++ {
		wantPlan(t, "another qubit's", of(3, 0, do(x, 0), barrier(2), do(x, 0)), k, []int{0}, []int{2})
		wantPlan(t, "no row of its qubit", of(3, 0, do(x, 0), barrier(0), do(x, 1)), k, []int{0}, []int{2})
		wantPlan(t, "at both ends", of(1, 0, barrier(0), do(x, 0), barrier(0)), k, []int{1})
		wantPlan(t, "two", of(1, 0, do(x, 0), barrier(0), barrier(0), do(x, 0)), k, []int{0}, []int{3})
		wantPlan(t, "walls alone", of(2, 0, barrier(0), barrier(0, 1)), k)
		wantPlan(t, "as many as may be", of(1, 0, repeated(4096, barrier(0))...), k)
	}
	// Behind the wall rows are found as at the beginning: the last one of a qubit, and the first that fits.
	c := of(4, 0, do(cx, 0, 1), do(cx, 2, 3), do(x, 0), barrier(1), do(x, 3), do(cx, 0, 1), do(cx, 3, 2), do(x, 1), do(x, 2))
	wantPlan(t, "behind", c, 2, []int{0, 2}, []int{1}, []int{4, 6, 8}, []int{5, 7})
	wantPlan(t, "behind", c, 1, []int{0}, []int{1}, []int{2}, []int{4}, []int{5}, []int{6}, []int{7}, []int{8})
}

// P16.1: as many gates as there may be: rows of one each, and one of all.
func TestPlanLong(t *testing.T) {
	ccx := of(4, 0, repeated(2048, do(api.GateCCX, 0, 1, 2), do(api.GateCCX, 1, 2, 3))...)
	if l := plan(t, ccx, 3); len(l) != 4096 || !slices.Equal(l[4095], []int{4095}) {
		t.Error("by 3:", len(l))
	}
	if l := plan(t, ccx, 4); len(l) != 1 || len(l[0]) != 4096 || l[0][4095] != 4095 || !slices.IsSorted(l[0]) {
		t.Error("by 4:", len(l))
	}
}

// P16.1: a circuit that may not be ahead of one that is not unitary, or a k that may not be.
func TestPlanRefuses(t *testing.T) {
	sizes := append(wrongSizes(), 1, 2, 3, 4, 5, 6)
	for _, k := range sizes {
		for _, c := range wrongCircuits() {
			wantRefused(t, "a wrong circuit", c, k, api.ErrCircuit)
		}
		for _, c := range openCircuits() {
			wantRefused(t, "a circuit that is not unitary", c, k, api.ErrFuse)
		}
	}
	for _, k := range wrongSizes() {
		for _, c := range []api.Circuit{of(0, 0), of(64, 0), of(1, 0, do(api.GateX, 0)), of(1, 0, barrier(0))} {
			wantRefused(t, "a circuit that is right", c, k, api.ErrFuse)
		}
	}
}

// R3: rows share nothing with one another, with the circuit, or with another call's.
func TestPlanAnswersItsOwn(t *testing.T) {
	c := of(3, 0, do(api.GateX, 0), do(api.GateX, 1), do(api.GateX, 0), do(api.GateCX, 1, 2), do(api.GateX, 1))
	ahead := deep(c)
	l, other := plan(t, c, 1), plan(t, c, 1)
	for i := range l {
		_ = append(l[i], 7, 7, 7)
		for j := range l[i] {
			l[i][j] = 10*i + j
		}
	}
	if want := [][]int{{0, 1}, {10}, {20}, {30}}; !samePlan(l, want) {
		t.Error("rows share memory:", l)
	}
	if !samePlan(other, slowPlan(c, 1)) || !sameCircuit(c, ahead) {
		t.Error("memory is shared:", other)
	}
}
