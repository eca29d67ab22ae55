package noise_test

import (
	"testing"

	"phasor/api"
)

// The chapter's examples, as they stand there.

func TestExampleOne(t *testing.T) {
	g := given{c: written(t, 2, 1, "cx 0 1; measure 1 -> 0"), slips: slipsOf(t, "0 +XI")}
	insert.want(t, g, told{c: written(t, 2, 1, "x 0; cx 0 1; measure 1 -> 0")})
	carry.want(t, g, told{frame: frame("+XX", "1", "1")})
}

func TestExampleTwo(t *testing.T) {
	g := given{c: written(t, 2, 1, "measure 0 -> 0; if 0 1 x 1"), slips: slipsOf(t, "0 +XI")}
	carry.want(t, g, told{frame: frame("+XX", "1", "1")})
}

func TestExampleThree(t *testing.T) {
	c := written(t, 1, 0, "sx 0")
	for u, wanted := range map[float64]string{0.05: "1 +X", 0.15: "1 +Z", 0.25: "1 +Y", 0.5: ""} {
		draw.want(t, given{c: c, p: 0.3, us: []float64{u}}, told{slips: slipsOf(t, wanted), n: 1})
	}
	carry.refuses(t, "ccx", given{c: written(t, 3, 0, "ccx 0 1 2")}, api.ErrFrame)
}

func TestExampleFour(t *testing.T) {
	g := given{c: written(t, 1, 1, "reset 0; measure 0 -> 0")}
	faults.want(t, g, told{faults: []fault{
		{slipsOf(t, "1 +X")[0], frame("+X", "1", "01")},
		{slipsOf(t, "1 +Y")[0], frame("+Y", "1", "01")},
		{slipsOf(t, "1 +Z")[0], frame("+Z", "0", "00")},
	}})
	blind.want(t, g, told{slips: slipsOf(t, "1 +Z")})
}

func TestExampleFive(t *testing.T) {
	m := rows(0.5, 0.5, 0.5, 0.5)
	once := pass.answer(t, given{m: m, k: api.ChannelZ, halves: 1}).m
	if !sameMatrix(once, rows(0.5, 0, 0, 0.5)) {
		t.Error(once)
	}
	pass.want(t, given{m: once, k: api.ChannelReset}, told{m: rows(1, 0, 0, 0)})
}
