package fuse_test

import (
	"math/rand"
	"slices"
	"testing"

	"phasor/api"
	"phasor/apply"
	"phasor/gate"
	"phasor/matrix"
)

// P16.2: circuits at chance against the slow blocks, to the bit, with more halves than are exact, too.
func TestBlocks(t *testing.T) {
	chance := rand.New(rand.NewSource(1603))
	for range 300 {
		c := wish{qubits: 1 + chance.Intn(8), bits: chance.Intn(3), ops: chance.Intn(30), halves: 40}.row(chance)
		ahead := deep(c)
		for k := 1; k <= 6; k++ {
			l := blocks(t, c, k)
			if wanted := slowBlocks(t, c, k); !sameBlocks(l, wanted) {
				t.Fatalf("by %d: %v, not %v", k, l, wanted)
			}
		}
		if !sameCircuit(c, ahead) {
			t.Fatal("the circuit was changed")
		}
	}
}

// P16.2: where halves are rounded, entries are what gates make of basis states, one behind the other, and no product of matrices.
func TestBlocksRound(t *testing.T) {
	chance := rand.New(rand.NewSource(1604))
	unlike := 0
	for range 10 {
		c := mixing(chance, 1000)
		l, wanted := blocks(t, c, 3), slowBlocks(t, c, 3)
		if !sameBlocks(l, wanted) || len(l) != 1 {
			t.Fatal("rounded:", len(l))
		}
		if !matrix.Equal(l[0].M, product(t, c)) {
			unlike++
		}
	}
	if unlike == 0 {
		t.Error("nothing was rounded")
	}
}

// product is a circuit's matrix by those of its gates, each laid among all qubits.
func product(t *testing.T, c api.Circuit) api.Matrix {
	t.Helper()
	m, _ := matrix.Identity(1 << c.Qubits)
	for _, op := range c.Ops {
		if op.Kind == api.OpBarrier {
			continue
		}
		g, _ := gate.Matrix(op.Gate)
		placed, e := matrix.Place(g, op.Qubits, c.Qubits)
		if e != api.OK {
			t.Fatal("Place:", e)
		}
		m, _ = matrix.Mul(placed, m)
	}
	return m
}

// P16.2: of exact circuits all blocks, laid among all qubits, have the circuit's matrix as their product.
func TestBlocksMultiply(t *testing.T) {
	chance := rand.New(rand.NewSource(1605))
	for n := 1; n <= 6; n++ {
		for range 12 {
			c := wish{qubits: n, ops: chance.Intn(25), halves: 24}.row(chance)
			wanted := product(t, c)
			for k := 1; k <= 6; k++ {
				m, _ := matrix.Identity(1 << n)
				for _, b := range blocks(t, c, k) {
					placed, e := matrix.Place(b.M, b.Qubits, n)
					if e != api.OK || !matrix.Unitary(b.M) {
						t.Fatal("Place:", e, b)
					}
					m, _ = matrix.Mul(placed, m)
				}
				if !matrix.Equal(m, wanted) {
					t.Fatalf("%d qubits by %d: %v, not %v", n, k, m, wanted)
				}
			}
		}
	}
}

// P16.2: by hand: qubits rise, whichever order the gate has them in, and its first one need not be the lowest bit.
func TestBlocksByHand(t *testing.T) {
	down := []complex128{1, 0, 0, 0, 0, 1, 0, 0, 0, 0, 0, 1, 0, 0, 1, 0} // cx from the higher bit to the lower
	up := []complex128{1, 0, 0, 0, 0, 0, 0, 1, 0, 0, 1, 0, 0, 1, 0, 0}
	half := 0.5 + 0.5i
	for _, w := range []struct {
		what   string
		c      api.Circuit
		k      int
		wanted []api.Block
	}{
		{"nothing", of(3, 0), 2, nil},
		{"a wall alone", of(3, 0, barrier(0, 2)), 2, nil},
		{"cx up", of(64, 9, do(api.GateCX, 5, 63)), 2, []api.Block{{Qubits: []int{5, 63}, Gates: 1, M: api.Matrix{N: 4, E: up}}}},
		{"cx down", of(64, 9, do(api.GateCX, 63, 5)), 2, []api.Block{{Qubits: []int{5, 63}, Gates: 1, M: api.Matrix{N: 4, E: down}}}},
		{"wider than k", of(7, 0, do(api.GateCX, 6, 2)), 1, []api.Block{{Qubits: []int{2, 6}, Gates: 1, M: api.Matrix{N: 4, E: down}}}},
		{"the first gate stands to the right", of(1, 0, do(api.GateX, 0), do(api.GateS, 0)), 1, []api.Block{{Qubits: []int{0}, Gates: 2, M: api.Matrix{N: 2, E: []complex128{0, 1, 1i, 0}}}}},
		{"two blocks", of(2, 0, do(api.GateW, 1), do(api.GateX, 0), do(api.GateZ, 0)), 1, []api.Block{
			{Qubits: []int{1}, Gates: 1, M: api.Matrix{N: 2, E: []complex128{half, -half, half, half}}},
			{Qubits: []int{0}, Gates: 2, M: api.Matrix{N: 2, E: []complex128{0, 1, -1, 0}}},
		}},
		{"a wall between", of(1, 0, do(api.GateX, 0), barrier(0), do(api.GateX, 0)), 6, []api.Block{
			{Qubits: []int{0}, Gates: 1, M: api.Matrix{N: 2, E: []complex128{0, 1, 1, 0}}},
			{Qubits: []int{0}, Gates: 1, M: api.Matrix{N: 2, E: []complex128{0, 1, 1, 0}}},
		}},
		{"two qubits of one gate each", of(9, 0, do(api.GateX, 8), do(api.GateS, 3)), 2, []api.Block{
			{Qubits: []int{3, 8}, Gates: 2, M: api.Matrix{N: 4, E: []complex128{0, 0, 1, 0, 0, 0, 0, 1i, 1, 0, 0, 0, 0, 1i, 0, 0}}},
		}},
	} {
		if l := blocks(t, w.c, w.k); !sameBlocks(l, w.wanted) {
			t.Errorf("%s: %v, not %v", w.what, l, w.wanted)
		}
	}
}

// P16.2: as many qubits and gates as there may be: blocks of MaxSide rows, and one of all gates.
func TestBlocksGreat(t *testing.T) {
	chance := rand.New(rand.NewSource(1606))
	c := wish{qubits: 64, bits: 64, ops: 300, halves: 300}.row(chance)
	l := blocks(t, c, 6)
	if !sameBlocks(l, slowBlocks(t, c, 6)) {
		t.Error("64 qubits")
	}
	if !slices.ContainsFunc(l, func(b api.Block) bool { return b.M.N == 64 && len(b.Qubits) == 6 }) {
		t.Error("no block of six qubits")
	}
	l = blocks(t, of(64, 0, repeated(4096, do(api.GateX, 63))...), 1)
	if len(l) != 1 || l[0].Gates != 4096 || !sameState(l[0].M.E, []complex128{1, 0, 0, 1}) {
		t.Error("4096 gates:", l)
	}
}

// P16.2: of a circuit that is one row the block is layer 10's Unitary of it.
func TestBlocksOfOneRow(t *testing.T) {
	chance := rand.New(rand.NewSource(1607))
	for n := 1; n <= 6; n++ {
		var all []api.Op
		for q := range n {
			all = append(all, do(api.GateS, q))
		}
		c := wish{qubits: n, ops: 20, halves: 20}.row(chance)
		c.Ops = slices.DeleteFunc(append(all, c.Ops...), func(op api.Op) bool { return op.Kind == api.OpBarrier })
		m, e := apply.Unitary(c)
		l := blocks(t, c, n)
		if e != api.OK || len(l) != 1 || l[0].Gates != len(c.Ops) || len(l[0].Qubits) != n || !matrix.Same(l[0].M, m) {
			t.Error(n, "qubits:", len(l), e)
		}
	}
}

// R3: lists of blocks are their own.
func TestBlocksAnswerTheirOwn(t *testing.T) {
	c := of(4, 0, do(api.GateX, 1), barrier(0), do(api.GateX, 1), do(api.GateCX, 2, 1))
	ahead := deep(c)
	l, other := blocks(t, c, 1), blocks(t, c, 1)
	for i := range l {
		for j := range l[i].Qubits {
			l[i].Qubits[j] = 10 + i
		}
		for j := range l[i].M.E {
			l[i].M.E[j] = complex(float64(i), 0)
		}
	}
	for i, b := range l {
		if b.Qubits[0] != 10+i || b.M.E[0] != complex(float64(i), 0) {
			t.Error("blocks share memory:", b)
		}
	}
	if !sameBlocks(other, slowBlocks(t, c, 1)) || !sameCircuit(c, ahead) {
		t.Error("memory is shared:", other)
	}
}
