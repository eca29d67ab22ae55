package route_test

import (
	"slices"
	"testing"

	"phasor/api"
	"phasor/route"
)

// The chapter's examples, as they stand there.

func TestExampleOne(t *testing.T) {
	m, e := route.Line(4)
	if e != api.OK {
		t.Fatal("Line:", e)
	}
	r := api.Routed{Circuit: of(4, 0, ops(t, "swap 0 1; swap 1 2; cx 2 3")...), Place: row(t, "2 0 1 3"), Swaps: 2}
	wantRoute(t, of(4, 0, ops(t, "cx 0 3")...), m, r)
	h := api.Routed{Circuit: of(4, 0, ops(t, "swap 0 1; swap 1 2; cx 2 3; swap 1 2; swap 0 1")...), Place: row(t, "0 1 2 3"), Swaps: 4}
	wantHome(t, r, m, h)
}

func TestExampleTwo(t *testing.T) {
	m := sketch(t, 4, "0 1, 1 3, 3 2")
	r := api.Routed{Circuit: of(4, 0, ops(t, "x 1; swap 0 1; swap 1 3; cx 3 2")...), Place: row(t, "3 0 2"), Swaps: 2}
	wantRoute(t, of(3, 0, ops(t, "x 1; cx 0 2")...), m, r)
	h := api.Routed{Circuit: of(4, 0, ops(t, "x 1; swap 0 1; swap 1 3; cx 3 2; swap 1 3; swap 0 1")...), Place: row(t, "0 1 2"), Swaps: 4}
	wantHome(t, r, m, h)
}

func TestExampleThree(t *testing.T) {
	m, e := route.Grid(2, 2)
	if e != api.OK || !sameMap(m, sketch(t, 4, "0 1, 0 2, 1 3, 2 3")) {
		t.Error("Grid:", m, e)
	}
	if l, e := pathOf(t, m, 0, 3); e != api.OK || !slices.Equal(l, row(t, "0 1 3")) {
		t.Error("Path:", l, e)
	}
	if l, e := farOf(t, m); e != api.OK || !sameRows(l, [][]int{{0, 1, 1, 2}, {1, 0, 2, 1}, {1, 2, 0, 1}, {2, 1, 1, 0}}) {
		t.Error("Far:", l, e)
	}
}

func TestExampleFour(t *testing.T) {
	if m, e := route.Ring(2); e != api.ErrArg || !sameMap(m, api.Coupling{}) {
		t.Error("Ring:", m, e)
	}
	if e := route.Check(sketch(t, 3, "0 1")); e != api.ErrMap {
		t.Error("Check:", e)
	}
	refusesRoute(t, "ccx", of(3, 0, ops(t, "ccx 0 1 2")...), chain(3), api.ErrRoute)
}
