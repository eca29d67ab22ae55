package density_test

import (
	"testing"

	"phasor/api"
)

// The chapter's examples, as they stand there.

func TestExampleOne(t *testing.T) {
	m := from.answer(t, given{s: bell()}).m
	if !equal(m, corners()) {
		t.Error(m)
	}
	kept := keep.answer(t, given{m: m, qubits: []int{0}}).m
	if !equal(kept, rows(0.5, 0, 0, 0.5)) {
		t.Error(kept)
	}
	purity.want(t, given{m: kept}, told{x: 0.5})
	keep.want(t, given{m: m}, told{m: rows(1)})
	purity.want(t, given{m: m}, told{x: 1})
}

func TestExampleTwo(t *testing.T) {
	m := from.answer(t, given{s: bell()}).m
	for text, wanted := range map[string]complex128{"+ZZ": 1, "+XX": 1, "+YY": -1, "+ZI": 0} {
		if z := stringIn.answer(t, given{m: m, p: read(text)}).z; z != wanted {
			t.Error(text, z)
		}
	}
	one := from.answer(t, given{s: []complex128{1, 0}}).m
	gateOn.want(t, given{m: one, kind: api.GateX, qubits: []int{0}}, told{m: rows(0, 0, 0, 1)})
}

func TestExampleThree(t *testing.T) {
	product.want(t, given{s: bell(), qubits: []int{0}}, told{is: false})
	product.want(t, given{s: []complex128{0, 1, 0, 0}, qubits: []int{1}}, told{is: true})
	one := from.answer(t, given{s: []complex128{1, 0}}).m
	fidelity.want(t, given{m: one, s: []complex128{0.5, 0.5}}, told{z: 0.25})
	kraus.refuses(t, "none", given{m: one}, api.ErrDensity)
}

func TestExampleFour(t *testing.T) {
	from.refuses(t, "128 amplitudes", given{s: make([]complex128, 128)}, api.ErrDensity)
	mix.refuses(t, "none", given{}, api.ErrDensity)
}
