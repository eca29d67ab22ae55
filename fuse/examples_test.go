package fuse_test

import (
	"testing"

	"phasor/api"
	"phasor/gate"
)

// The chapter's examples, as they stand there.

func TestExampleOne(t *testing.T) {
	c := of(3, 0, do(api.GateW, 0), do(api.GateCX, 0, 1), do(api.GateX, 2), do(api.GateS, 1))
	wantPlan(t, "four gates", c, 2, []int{0, 1, 3}, []int{2})
	wantPlan(t, "four gates", c, 1, []int{0}, []int{1}, []int{2}, []int{3})
	wantPlan(t, "four gates", c, 3, []int{0, 1, 2, 3})
}

func TestExampleTwo(t *testing.T) {
	wantPlan(t, "a wall", of(2, 0, do(api.GateX, 0), barrier(0, 1), do(api.GateX, 0)), 1, []int{0}, []int{2})
	wantPlan(t, "ccx", of(3, 0, do(api.GateX, 0), do(api.GateCCX, 0, 1, 2), do(api.GateX, 0)), 2, []int{0}, []int{1}, []int{2})
}

func TestExampleThree(t *testing.T) {
	c := of(4, 0, do(api.GateCX, 0, 1), do(api.GateCX, 2, 3), do(api.GateCX, 1, 2), do(api.GateX, 0))
	wantPlan(t, "a gate that goes back", c, 2, []int{0, 3}, []int{1}, []int{2})
}

func TestExampleFour(t *testing.T) {
	x, _ := gate.Matrix(api.GateX)
	wanted := []api.Block{{Qubits: []int{0}, Gates: 2, M: x}}
	for k := 1; k <= 6; k++ {
		if l := blocks(t, of(1, 0, do(api.GateV, 0), do(api.GateV, 0)), k); !sameBlocks(l, wanted) {
			t.Error("by", k, l)
		}
	}
}
