package equal_test

import (
	"testing"

	"phasor/api"
)

// Errors: a circuit that may not be comes ahead of all else, whichever of the two it is, and whatever the other one is.
func TestWrongCircuits(t *testing.T) {
	others := []api.Circuit{
		of(0, 0), of(1, 0), of(1, 1), of(2, 0), of(64, 64), of(13, 1, times(20, measure(0, 0))...), of(3, 0, do(api.GateCCX, 0, 1, 2)), of(1, 1, reset(0)), of(7, 0), of(11, 0), of(65, 0),
	}
	for _, f := range calls() {
		for _, wrong := range wrongCircuits() {
			f.refuses(t, "what may not be", wrong, wrong, api.ErrCircuit)
			for _, other := range others {
				f.refuses(t, "what may not be, first", wrong, other, api.ErrCircuit)
				if f.takes == 2 {
					f.refuses(t, "what may not be, second", other, wrong, api.ErrCircuit)
				}
			}
		}
	}
}

// unfit has, of each call but Tallies, circuits that may be, but that it does not take.
func unfit(t *testing.T) map[string][]api.Circuit {
	open := []api.Circuit{
		bitted(t, 1, 1, "measure 0 -> 0"), bitted(t, 1, 1, "reset 0"), bitted(t, 1, 1, "if 0 0 x 0"), bitted(t, 1, 1, "if 0 1 id 0"), bitted(t, 2, 1, "x 0; cx 0 1; measure 1 -> 0"), bitted(t, 2, 1, "reset 0; x 0"), bitted(t, 2, 64, "x 0; if 63 0 z 1; x 0"),
		of(64, 1, times(4096, measure(63, 0))...), of(6, 0, behind(times(4095, barrier(0, 1)), []api.Op{reset(5)})...),
	}
	wide := append([]api.Circuit{of(7, 0), of(8, 0, do(api.GateX, 0)), of(10, 0)}, open...)
	wider := append([]api.Circuit{of(11, 0), of(12, 0), of(13, 0), of(64, 0, do(api.GateZ, 63))}, open...)
	magic := append([]api.Circuit{gates(t, 3, "ccx 0 1 2"), gates(t, 3, "ccz 2 1 0"), gates(t, 3, "cswap 0 1 2"), gates(t, 64, "x 0; cx 0 1; ccx 63 62 61"), bitted(t, 3, 1, "ccx 0 1 2; measure 0 -> 0")}, open...)
	return map[string][]api.Circuit{"Phase": append(wide, wider...), "Witness": wider, "Images": magic, "Clifford": magic, "Diagonal": append(wide, wider...)}
}

// P21.1 to P21.4: ErrEqual of what is not Unitary, of too many qubits, or no Clifford circuit: of one of the two, or of both; in whichever order.
func TestUnfitCircuits(t *testing.T) {
	lists := unfit(t)
	for _, f := range calls() {
		for _, c := range lists[f.name] {
			f.refuses(t, "what it does not take", c, c, api.ErrEqual)
			f.refuses(t, "what it does not take, first", c, of(c.Qubits, c.Bits), api.ErrEqual)
			if f.takes == 2 {
				f.refuses(t, "what it does not take, second", of(c.Qubits, c.Bits), c, api.ErrEqual)
			}
		}
	}
}

// P21.1 to P21.3: ErrEqual of unlike numbers of qubits, even if nothing is done with them.
func TestUnlikeNumbersOfQubits(t *testing.T) {
	for _, f := range []call{phase, witness, clifford} {
		for _, n := range [][2]int{{0, 1}, {1, 2}, {5, 6}, {6, 7}, {6, 10}, {0, 6}, {0, 64}, {1, 64}} {
			f.refuses(t, "unlike numbers", of(n[0], 0), of(n[1], 0), api.ErrEqual)
			f.refuses(t, "unlike numbers", of(n[1], 0), of(n[0], 0), api.ErrEqual)
		}
	}
}

// P21.1 to P21.4: the greatest numbers of qubits that are taken, and those above.
func TestMostQubits(t *testing.T) {
	for n := range 65 {
		c := of(n, 0)
		for _, k := range []struct {
			f      call
			most   int
			wanted told
		}{{phase, 6, told{}}, {witness, 10, told{number: -1}}, {images, 64, told{strings: firsts(n)}}, {clifford, 64, told{yes: true}}, {diagonal, 6, told{yes: true}}, {tallies, 12, told{yes: true}}} {
			if n <= k.most {
				k.f.want(t, c, c, k.wanted)
			} else {
				k.f.refuses(t, "too many qubits", c, c, api.ErrEqual)
			}
		}
	}
}

// R3: lists without anything are as good as none.
func TestEmptyLists(t *testing.T) {
	none, empty := api.Circuit{Qubits: 1}, api.Circuit{Qubits: 1, Ops: []api.Op{}}
	phase.wantNumber(t, none, empty, 0)
	witness.wantNumber(t, none, empty, -1)
	clifford.wantYes(t, empty, none, true)
	tallies.wantYes(t, empty, none, true)
	diagonal.wantYes(t, empty, none, true)
	phase.wantNumber(t, api.Circuit{}, api.Circuit{}, 0)
	images.want(t, api.Circuit{}, api.Circuit{}, told{})
}
