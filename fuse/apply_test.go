package fuse_test

import (
	"math/rand"
	"slices"
	"testing"

	"phasor/api"
	"phasor/fuse"
)

// anyBlocks are blocks that a state of n qubits takes: matrices of any numbers, on qubits in any order, and any counts of gates.
func anyBlocks(chance *rand.Rand, n, many int, draw func(chance *rand.Rand, n int) []complex128) []api.Block {
	var l []api.Block
	for range many {
		width := chance.Intn(min(n, 6) + 1)
		rows := 1 << width
		l = append(l, api.Block{Qubits: chance.Perm(n)[:width], Gates: chance.Intn(9) - 4, M: api.Matrix{N: rows, E: draw(chance, rows*rows)}})
	}
	return l
}

// P16.3: any blocks on any states against the slow way, to the bit; what is handed in is not changed.
func TestApply(t *testing.T) {
	chance := rand.New(rand.NewSource(1608))
	for n := range 13 {
		for range 1 + 60>>n {
			for _, draw := range []func(*rand.Rand, int) []complex128{odd, tame} {
				s, l := draw(chance, 1<<n), anyBlocks(chance, n, chance.Intn(5), draw)
				ahead, before := slices.Clone(s), copied(l)
				got := applied(t, s, l)
				if !sameState(got, slowApply(t, s, l)) {
					t.Fatalf("%d qubits, %d blocks", n, len(l))
				}
				if !sameState(s, ahead) || !sameBlocks(l, before) {
					t.Fatal("an argument was changed")
				}
			}
		}
	}
}

func copied(l []api.Block) []api.Block {
	var other []api.Block
	for _, b := range l {
		other = append(other, api.Block{Qubits: slices.Clone(b.Qubits), Gates: b.Gates, M: api.Matrix{N: b.M.N, E: slices.Clone(b.M.E)}})
	}
	return other
}

// P16.3: by hand: the order of blocks and of their qubits, what is cleaned, and that without blocks nothing is.
func TestApplyByHand(t *testing.T) {
	x := api.Matrix{N: 2, E: []complex128{0, 1, 1, 0}}
	s := api.Matrix{N: 2, E: []complex128{1, 0, 0, 1i}}
	cx := api.Matrix{N: 4, E: []complex128{1, 0, 0, 0, 0, 0, 0, 1, 0, 0, 1, 0, 0, 1, 0, 0}}
	signed := []complex128{complex(minus0, 1), complex(2, minus0)}
	for _, w := range []struct {
		what   string
		s      []complex128
		l      []api.Block
		wanted []complex128
	}{
		{"nil", signed, nil, signed},
		{"none", signed, []api.Block{}, signed},
		{"room behind the end", signed, make([]api.Block, 0, 3), signed},
		{"the unit cleans", signed, []api.Block{{Qubits: []int{0}, M: api.Matrix{N: 2, E: []complex128{1, 0, 0, 1}}}}, []complex128{1i, 2}},
		{"on no qubit", []complex128{2, 3}, []api.Block{{M: api.Matrix{N: 1, E: []complex128{1i}}}}, []complex128{2i, 3i}},
		{"a state of no qubit", []complex128{2}, []api.Block{{M: api.Matrix{N: 1, E: []complex128{3}}}}, []complex128{6}},
		{"x, then s", []complex128{1, 2}, []api.Block{{Qubits: []int{0}, M: x}, {Qubits: []int{0}, M: s}}, []complex128{2, 1i}},
		{"s, then x", []complex128{1, 2}, []api.Block{{Qubits: []int{0}, M: s}, {Qubits: []int{0}, M: x}}, []complex128{2i, 1}},
		{"cx up", []complex128{1, 2, 3, 4}, []api.Block{{Qubits: []int{0, 1}, M: cx}}, []complex128{1, 4, 3, 2}},
		{"cx down: qubits need not rise", []complex128{1, 2, 3, 4}, []api.Block{{Qubits: []int{1, 0}, M: cx}}, []complex128{1, 2, 4, 3}},
		{"the count of gates is not looked at", []complex128{1, 2}, []api.Block{{Qubits: []int{0}, Gates: -7, M: x}}, []complex128{2, 1}},
		{"what is not unitary", []complex128{1, 2}, []api.Block{{Qubits: []int{0}, M: api.Matrix{N: 2, E: []complex128{1, 1, 0, 0}}}}, []complex128{3, 0}},
	} {
		got := applied(t, w.s, w.l)
		if !sameState(got, w.wanted) {
			t.Errorf("%s: %v, not %v", w.what, got, w.wanted)
		}
		if got[0] = 99; w.s[0] == 99 {
			t.Error(w.what, ": memory is shared")
		}
	}
}

// P16.3: what is no state, ahead of all blocks.
func TestApplyRefusesStates(t *testing.T) {
	x := api.Block{Qubits: []int{0}, Gates: 1, M: api.Matrix{N: 2, E: []complex128{0, 1, 1, 0}}}
	for _, s := range wrongStates() {
		for _, l := range [][]api.Block{nil, {x}, {{}}, {x, {}, x}} {
			if got, place, e := fuse.Apply(s, l); e != api.ErrState || place != 0 || len(got) != 0 {
				t.Errorf("%d amplitudes: %d, place %d, error %d", len(s), len(got), place, e)
			}
		}
	}
}

// wrongBlocks are those that no state of n qubits takes.
func wrongBlocks(n int) []api.Block {
	two := func(qubits ...int) api.Block {
		return api.Block{Qubits: qubits, Gates: 1, M: api.Matrix{N: 2, E: make([]complex128, 4)}}
	}
	four := func(qubits ...int) api.Block {
		return api.Block{Qubits: qubits, Gates: 1, M: api.Matrix{N: 4, E: make([]complex128, 16)}}
	}
	wide := make([]int, 7)
	for i := range wide {
		wide[i] = i
	}
	return []api.Block{
		{}, {Qubits: []int{0}}, two(), two(-1), two(n), two(64), two(least), two(great), two(0, 1), four(0), four(0, 0), four(0, n), four(n-1, -1),
		{Qubits: []int{0}, M: api.Matrix{N: 2, E: make([]complex128, 3, 4)}}, {Qubits: []int{0}, M: api.Matrix{N: 2, E: make([]complex128, 5)}},
		{Qubits: []int{0}, M: api.Matrix{N: 1, E: make([]complex128, 1)}}, {M: api.Matrix{N: 0}}, {M: api.Matrix{N: -1, E: make([]complex128, 1)}},
		{Qubits: []int{0, 1}, M: api.Matrix{N: 3, E: make([]complex128, 9)}}, {Qubits: []int{0}, M: api.Matrix{N: great}},
		{Qubits: wide, M: api.Matrix{N: 128, E: make([]complex128, 128*128)}}, {Qubits: make([]int, 100000), M: api.Matrix{N: 64, E: make([]complex128, 64*64)}},
	}
}

// P16.3: the place of the first block that is refused, however many more there are; nothing beside it.
func TestApplyRefusesBlocks(t *testing.T) {
	chance := rand.New(rand.NewSource(1609))
	for n := range 13 {
		for i, wrong := range wrongBlocks(n) {
			for _, many := range []int{0, 1, 3} {
				s := tame(chance, 1<<n)
				ahead := slices.Clone(s)
				l := append(anyBlocks(chance, n, many, tame), wrong, api.Block{})
				l = append(l, anyBlocks(chance, n, many, tame)...)
				if got, place, e := fuse.Apply(s, l); e != api.ErrFuse || place != many || len(got) != 0 {
					t.Errorf("%d qubits, block %d: %d amplitudes, place %d, error %d", n, i, len(got), place, e)
				}
				if !sameState(s, ahead) {
					t.Fatal("the state was changed")
				}
			}
		}
	}
}

// P16.3: blocks of a wider circuit are refused where the state ends.
func TestApplyGoesByTheState(t *testing.T) {
	for n := range 13 {
		for q := range 14 {
			l := blocks(t, of(14, 0, do(api.GateX, q)), 1)
			s, many, e := fuse.Apply(basis(n, 0), l)
			if q < n && (e != api.OK || many != 1 || !sameState(s, basis(n, 1<<q))) || q >= n && (e != api.ErrFuse || many != 0 || len(s) != 0) {
				t.Errorf("%d qubits, x on %d: %d, %d", n, q, many, e)
			}
		}
	}
}
