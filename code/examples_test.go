package code_test

import (
	"slices"
	"testing"

	"phasor/api"
)

// The chapter's examples, as they stand there.

func TestExampleOne(t *testing.T) {
	syndrome.want(t, given{name: "bit", p: read("+XII")}, told{syndrome: []int{1, 0}})
	correction.want(t, given{name: "bit", syndrome: []int{1, 0}}, told{p: read("+XII"), flag: true})
	correction.want(t, given{name: "five", syndrome: []int{0, 0, 0, 1}}, told{p: read("+XIIII"), flag: true})
	correction.refuses(t, given{name: "bit", syndrome: []int{1, 2}})
}

func TestExampleTwo(t *testing.T) {
	encode.want(t, given{name: "bit", zero: 1}, told{s: []complex128{1, 0, 0, 0, 0, 0, 0, 0}})
	encode.want(t, given{name: "bit", one: 1}, told{s: []complex128{0, 0, 0, 0, 0, 0, 0, 1}})
	encode.want(t, given{name: "sign", zero: 1}, told{s: slices.Repeat([]complex128{0.125}, 8)})
	s := struck(t, read("+IXI"), encode.answer(t, given{name: "bit", zero: 1}).s)
	look.want(t, given{name: "bit", s: s}, told{syndrome: []int{1, 1}})
}

func TestExampleThree(t *testing.T) {
	leastOf.want(t, given{name: "bit", syndrome: []int{1, 1}}, told{p: read("+IXI")})
	wide := concat.answer(t, given{name: "bit", inner: "sign"})
	if wide.p.N != 9 || wide.strings[6] != read("+XIIXIIIII") {
		t.Error(wide)
	}
	lift.want(t, given{name: "steane", kind: api.GateS}, told{p: read("-Y"), q: read("+Z"), flag: true})
	lift.want(t, given{name: "five", kind: api.GateS}, told{})
}

func TestExampleFour(t *testing.T) {
	distance.want(t, given{name: "steane"}, told{n: 3})
	trivial.want(t, given{name: "bit", p: read("-ZIZ")}, told{flag: true})
	trivial.want(t, given{name: "bit", p: read("+XXX")}, told{flag: false})
	s := encode.answer(t, given{name: "bit", zero: 0.5, one: 0.25i}).s
	decode.want(t, given{name: "bit", s: s}, told{zero: 0.5, one: 0.25i})
}
