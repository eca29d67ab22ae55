package equal_test

import (
	"strings"
	"testing"

	"phasor/api"
	"phasor/pauli"
)

// The chapter's examples, as they stand there.

func TestExampleOne(t *testing.T) {
	one := func(text string) api.Circuit { return gates(t, 1, text) }
	phase.wantNumber(t, one("z 0"), one("s 0; s 0"), 0)
	phase.wantNumber(t, one("x 0; z 0"), one("y 0"), 1)
	phase.wantNumber(t, one("x 0"), one("y 0"), -1)
	witness.wantNumber(t, one("x 0"), one("y 0"), 0)
	witness.wantNumber(t, one("z 0"), one("id 0"), 1)
}

func TestExampleTwo(t *testing.T) {
	wantImages(t, gates(t, 2, "cx 0 1"), "+XX +ZI +IX +ZZ")
	clifford.wantYes(t, gates(t, 1, "x 0; z 0"), gates(t, 1, "y 0"), true)
	clifford.wantYes(t, gates(t, 1, "sx 0"), gates(t, 1, "sy 0"), false)
	ccx := gates(t, 3, "ccx 0 1 2")
	images.refuses(t, "ccx", ccx, ccx, api.ErrEqual)
	clifford.refuses(t, "ccx", ccx, ccx, api.ErrEqual)
}

func TestExampleThree(t *testing.T) {
	diagonal.wantYes(t, gates(t, 2, "cz 0 1; s 0"), api.Circuit{}, true)
	diagonal.wantYes(t, gates(t, 2, "cx 0 1"), api.Circuit{}, false)
	one := func(text string) api.Circuit { return bitted(t, 1, 1, text) }
	tallies.wantYes(t, one("sx 0; measure 0 -> 0"), one("sy 0; measure 0 -> 0"), true)
	tallies.wantYes(t, one("x 0; measure 0 -> 0"), one("measure 0 -> 0"), false)
}

// wantImages holds a circuit's images against strings as layer 13 writes them.
func wantImages(t *testing.T, c api.Circuit, wanted string) {
	t.Helper()
	images.want(t, c, api.Circuit{}, told{strings: stringsOf(t, wanted)})
}

func stringsOf(t *testing.T, text string) []api.Pauli {
	t.Helper()
	var l []api.Pauli
	for _, word := range strings.Fields(text) {
		p, e := pauli.Parse(word)
		if e != api.OK {
			t.Fatal("no string:", word)
		}
		l = append(l, p)
	}
	return l
}
