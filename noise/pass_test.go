package noise_test

import (
	"math/rand"
	"testing"

	"phasor/api"
	"phasor/density"
	"phasor/matrix"
)

// P24.6: by hand: what each channel does, wholly.
func TestPassByHand(t *testing.T) {
	m := rows(1, 2i, 3, 4-4i)
	for k, wanted := range map[api.Channel]api.Matrix{
		api.ChannelX:     rows(4-4i, 3, 2i, 1),
		api.ChannelZ:     rows(1, -2i, -3, 4-4i),
		api.ChannelY:     rows(4-4i, -3, -2i, 1),
		api.ChannelReset: rows(5-4i, 0, 0, 0),
		api.ChannelMix:   rows(2.5-2i, 0, 0, 2.5-2i),
	} {
		pass.want(t, given{m: m, k: k}, told{m: wanted})
	}
	for k, wanted := range map[api.Channel]api.Matrix{
		api.ChannelX:     rows(1.75-1i, 0.75+1.5i, 2.25+0.5i, 3.25-3i),
		api.ChannelZ:     rows(1, 1i, 1.5, 4-4i),
		api.ChannelY:     rows(1.75-1i, -0.75+1.5i, 2.25-0.5i, 3.25-3i),
		api.ChannelReset: rows(2-1i, 1.5i, 2.25, 3-3i),
		api.ChannelMix:   rows(1.375-0.5i, 1.5i, 2.25, 3.625-3.5i),
	} {
		pass.want(t, given{m: m, k: k, halves: 2}, told{m: wanted})
	}
}

// P24.6: by hand: on either qubit of two, numbers 10 * row + column tell where an entry was.
func TestPassOfTwo(t *testing.T) {
	m := blank(4)
	for i := range m.E {
		m.E[i] = complex(float64(10*(i/4)+i%4), 0)
	}
	for _, c := range []struct {
		qubit  int
		k      api.Channel
		wanted api.Matrix
	}{
		{0, api.ChannelX, rows(11, 10, 13, 12, 1, 0, 3, 2, 31, 30, 33, 32, 21, 20, 23, 22)},
		{1, api.ChannelX, rows(22, 23, 20, 21, 32, 33, 30, 31, 2, 3, 0, 1, 12, 13, 10, 11)},
		{0, api.ChannelZ, rows(0, -1, 2, -3, -10, 11, -12, 13, 20, -21, 22, -23, -30, 31, -32, 33)},
		{1, api.ChannelZ, rows(0, 1, -2, -3, 10, 11, -12, -13, -20, -21, 22, 23, -30, -31, 32, 33)},
		{0, api.ChannelY, rows(11, -10, 13, -12, -1, 0, -3, 2, 31, -30, 33, -32, -21, 20, -23, 22)},
		{1, api.ChannelY, rows(22, 23, -20, -21, 32, 33, -30, -31, -2, -3, 0, 1, -12, -13, 10, 11)},
		{0, api.ChannelReset, rows(11, 0, 15, 0, 0, 0, 0, 0, 51, 0, 55, 0, 0, 0, 0, 0)},
		{1, api.ChannelReset, rows(22, 24, 0, 0, 42, 44, 0, 0, 0, 0, 0, 0, 0, 0, 0, 0)},
		{0, api.ChannelMix, rows(5.5, 0, 7.5, 0, 0, 5.5, 0, 7.5, 25.5, 0, 27.5, 0, 0, 25.5, 0, 27.5)},
		{1, api.ChannelMix, rows(11, 12, 0, 0, 21, 22, 0, 0, 0, 0, 11, 12, 0, 0, 21, 22)},
	} {
		pass.want(t, given{m: m, qubit: c.qubit, k: c.k}, told{m: c.wanted})
	}
}

// P24.6: to the bit, of all sizes, qubits, kinds and halves, on floats of all kinds; every nought is without a sign.
func TestPass(t *testing.T) {
	chance := rand.New(rand.NewSource(2412))
	for n := 1; n < 7; n++ {
		for qubit := range n {
			for _, k := range kinds() {
				for _, draw := range []func(*rand.Rand) float64{oddFloat, tameFloat, roundFloat} {
					for range 2 + 8>>n {
						pass.wantSlow(t, given{m: anyMatrix(chance, n, draw), qubit: qubit, k: k, halves: chance.Intn(21)})
						pass.wantSlow(t, given{m: anyMatrix(chance, n, draw), qubit: qubit, k: k, halves: []int{0, 20}[chance.Intn(2)]})
					}
				}
			}
		}
	}
	for halves := range 21 {
		for _, k := range kinds() {
			pass.wantSlow(t, given{m: anyMatrix(chance, 2, tameFloat), qubit: chance.Intn(2), k: k, halves: halves})
		}
	}
}

// P24.6: an infinity times a nought is a NaN, as the formula has it, though nothing of the old entry be left; a half is rounded once.
func TestPassEdges(t *testing.T) {
	got := pass.answer(t, given{m: rows(complex(inf, 0), 0, 0, 1), k: api.ChannelX}).m
	if want := rows(complex(nan, nan), 0, 0, complex(inf, nan)); !sameMatrix(got, want) {
		t.Errorf("%v, not %v", got, want)
	}
	got = pass.answer(t, given{m: rows(complex(minus0, minus0), complex(minus0, 0), complex(0, minus0), complex(minus0, minus0)), k: api.ChannelZ, halves: 3}).m
	if !sameMatrix(got, blank(2)) {
		t.Error("noughts have signs:", got)
	}
	got = pass.answer(t, given{m: rows(2*tiny, 0, 0, tiny), k: api.ChannelMix}).m
	if want := rows(2*tiny, 0, 0, 2*tiny); !sameMatrix(got, want) {
		t.Errorf("%v, not %v", got, want)
	}
}

// P24.6: what is wrong, one at a time; the matrix is told first.
func TestPassRefuses(t *testing.T) {
	for _, m := range wrongMatrices() {
		for _, g := range []given{{m: m, k: api.ChannelX}, {m: m, qubit: -1}, {m: m, k: 9, halves: -1}} {
			pass.refuses(t, "no density matrix", g, api.ErrShape)
		}
	}
	for n := range 7 {
		m := blank(1 << n)
		for _, qubit := range []int{-1, n, n + 1, 6, 63, 64, 65, 1 << 32, great, least} {
			pass.refuses(t, "no such qubit", given{m: m, qubit: qubit, k: api.ChannelX}, api.ErrNoise)
		}
		for _, k := range []api.Channel{0, -1, 6, 7, great, least, 1 << 32} {
			pass.refuses(t, "no such kind", given{m: m, k: k}, api.ErrNoise)
		}
		for _, halves := range []int{-1, 21, 22, great, least} {
			pass.refuses(t, "halves", given{m: m, k: api.ChannelZ, halves: halves}, api.ErrNoise)
		}
	}
}

// placed is a matrix of one qubit, laid on a qubit of n.
func placed(m api.Matrix, qubit, n int) api.Matrix {
	wide, _ := matrix.Place(m, []int{qubit}, n)
	return wide
}

// P24.6, layer 23: wholly, the channels X, Y and Z are the gates, and the others sums of what matrices make of a density matrix.
func TestPassIsLayer23(t *testing.T) {
	chance := rand.New(rand.NewSource(2413))
	gates := map[api.Channel]api.GateKind{api.ChannelX: api.GateX, api.ChannelY: api.GateY, api.ChannelZ: api.GateZ}
	sums := map[api.Channel][]api.Matrix{
		api.ChannelReset: {rows(1, 0, 0, 0), rows(0, 1, 0, 0)},
		api.ChannelMix:   {rows(0.5, 0, 0, 0.5), rows(0, 0.5, 0.5, 0), rows(0, -0.5i, 0.5i, 0), rows(0.5, 0, 0, -0.5)},
	}
	for n := 1; n < 6; n++ {
		for qubit := range n {
			for _, k := range kinds() {
				m := anyMatrix(chance, n, roundFloat)
				wanted, e := density.Gate(m, gates[k], []int{qubit})
				if gates[k] == 0 {
					var l []api.Matrix
					for _, small := range sums[k] {
						l = append(l, placed(small, qubit, n))
					}
					wanted, e = density.Kraus(m, l)
				}
				if got := pass.answer(t, given{m: m, qubit: qubit, k: k}).m; e != api.OK || !equal(got, wanted) {
					t.Fatalf("channel %d on %d of %v: %v, not %v, %d", k, qubit, m, got, wanted, e)
				}
			}
		}
	}
}
