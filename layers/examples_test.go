package layers_test

import (
	"testing"

	"phasor/api"
)

// The chapter's examples, as they stand there.

func example(t *testing.T) api.Circuit {
	t.Helper()
	return of(3, 0, ops(t, "x 0; cx 0 1; x 2; barrier 1 2; x 2")...)
}

func TestExampleOne(t *testing.T) {
	c := example(t)
	early.wantRow(t, c, row(t, "1 2 1 2 3"))
	depth.want(t, c, nil, told{number: 3})
	late.wantRow(t, c, row(t, "1 2 2 2 3"))
	moments.want(t, c, nil, told{rows: rows(t, "0 2; 1; 4")})
	sorted.wantCircuit(t, c, of(3, 0, ops(t, "x 0; x 2; cx 0 1; barrier 1 2; x 2")...))
}

func TestExampleTwo(t *testing.T) {
	c := example(t)
	past.wantRow(t, c, row(t, "2 4"), 2)
	past.wantRow(t, c, row(t, "0 1"), 1)
	future.wantRow(t, c, row(t, "0 1"), 0)
	past.refuses(t, "qubit 3", c, []int{3}, api.ErrLayers)
}
