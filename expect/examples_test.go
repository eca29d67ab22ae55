package expect_test

import (
	"testing"

	"phasor/api"
)

// The chapter's examples, as they stand there.

func TestExampleOne(t *testing.T) {
	s := bell()
	wantValue(t, s, read("+XX"), 1)
	wantValue(t, s, read("+YY"), -1)
	wantValue(t, s, read("+ZZ"), 1)
	wantValue(t, s, read("+ZI"), 0)
	wantValue(t, s, read("+iXX"), 1i)
	l := bellTable()
	table.want(t, s, nil, told{floats: l})
	purity.want(t, l, told{x: 1})
}

// bellTable is that of the chapter's state.
func bellTable() []float64 {
	l := make([]float64, 16)
	l[0], l[3], l[12], l[15] = 1, 1, 1, -1
	return l
}

func TestExampleTwo(t *testing.T) {
	energy.want(t, bell(), []api.Term{term(0.5, "+XX"), term(0.25, "+ZZ")}, told{x: 0.75})
	energy.refuses(t, "an infinite weight", bell(), []api.Term{term(-inf, "+ZZ")}, api.ErrExpect)
}

func TestExampleThree(t *testing.T) {
	spread.want(t, bell(), []api.Term{term(1, "+XX"), term(1, "+ZZ")}, told{x: 2, y: 4})
	image.want(t, []complex128{1, 0}, []api.Term{term(2, "+X")}, told{numbers: []complex128{0, 2}})
}

func TestExampleFour(t *testing.T) {
	corners := make([]complex128, 16)
	corners[0], corners[3], corners[12], corners[15] = 0.5, 0.5, 0.5, 0.5
	rebuild.want(t, bellTable(), told{rows: 4, numbers: corners})
	rebuild.want(t, []float64{1}, told{rows: 1, numbers: []complex128{1}})
	rebuild.refuses(t, "two numbers", []float64{1, 0}, api.ErrExpect)
}

func TestExampleFive(t *testing.T) {
	back.want(t, gates(2, "cx 0 1"), read("+IZ"), read("+ZZ"))
}
