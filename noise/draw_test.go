package noise_test

import (
	"math"
	"math/rand"
	"testing"

	"phasor/api"
)

// P24.3: by hand: a number for each qubit of each gate, in the gate's order, whether it has a condition or not; none for all else; what is left over is not looked at.
func TestDrawByHand(t *testing.T) {
	c := written(t, 3, 1, "barrier 0 1; ccx 2 0 1; measure 0 -> 0; if 0 1 cx 1 2; reset 2; id 0; barrier 2")
	none := []float64{0.9, 0.9, 0.9, 0.9, 0.9, 0.9}
	draw.want(t, given{c: c, p: 0.75, us: none}, told{n: 6})
	for place, wanted := range []string{"2 +IIX", "2 +XII", "2 +IXI", "4 +IXI", "4 +IIX", "6 +XII"} {
		us := append([]float64{}, none...)
		us[place] = 0.125
		draw.want(t, given{c: c, p: 0.75, us: append(us, nan, -1, 7)}, told{slips: slipsOf(t, wanted), n: 6})
	}
	all := "2 +IIX, 2 +XII, 2 +IXI, 4 +IYI, 4 +IIZ, 6 +XII"
	draw.want(t, given{c: c, p: 1, us: []float64{0, 0.25, 0.33, 0.7, 0.5, minus0}}, told{slips: slipsOf(t, all), n: 6})
	quiet := written(t, 2, 1, "measure 0 -> 0; reset 1; barrier 1 0")
	draw.want(t, given{c: quiet, p: 1}, told{})
	draw.want(t, given{c: quiet, p: 1, us: []float64{nan, 5}}, told{})
	draw.want(t, given{c: of(0, 0), p: 0.5, us: []float64{0}}, told{})
}

// before is the next float below.
func before(x float64) float64 { return math.Nextafter(x, -1) }

// P24.3: at the edges of thirds: three times the float below 0.1 is less than 0.3, but the product, rounded, is not. Of a p of 0 nothing strikes, of 1 always something.
func TestDrawEdges(t *testing.T) {
	one := written(t, 1, 0, "x 0")
	for _, c := range []struct {
		p, u   float64
		wanted string
	}{
		{0.3, 0.1, "1 +Z"}, {0.3, before(0.1), "1 +Z"}, {0.3, before(before(0.1)), "1 +X"}, {0.3, 0.2, "1 +Y"}, {0.3, before(0.2), "1 +Y"}, {0.3, before(before(0.2)), "1 +Z"}, {0.3, before(0.3), "1 +Y"}, {0.3, 0.3, ""},
		{0.75, 0.25, "1 +Z"}, {0.75, before(0.25), "1 +X"}, {0.75, 0.5, "1 +Y"}, {0.75, before(0.5), "1 +Z"}, {0.75, 0.75, ""},
		{0, 0, ""}, {0, minus0, ""}, {minus0, 0, ""}, {minus0, minus0, ""}, {0, 0.5, ""}, {0, below, ""},
		{1, 0, "1 +X"}, {1, minus0, "1 +X"}, {1, tiny, "1 +X"}, {1, 0.34, "1 +Z"}, {1, 0.67, "1 +Y"}, {1, below, "1 +Y"},
		{tiny, 0, "1 +X"}, {tiny, minus0, "1 +X"}, {tiny, tiny, ""}, {2 * tiny, tiny, "1 +Y"}, {3 * tiny, tiny, "1 +Z"}, {4 * tiny, tiny, "1 +X"}, {4 * tiny, 3 * tiny, "1 +Y"}, {below, below, ""},
	} {
		draw.want(t, given{c: one, p: c.p, us: []float64{c.u}}, told{slips: slipsOf(t, c.wanted), n: 1})
	}
}

// P24.3: against the chapter written a second time, near the edges most of the time, and with too few numbers.
func TestDraw(t *testing.T) {
	chance := rand.New(rand.NewSource(2403))
	refused := 0
	for i := range 3000 {
		w := wish{qubits: chance.Intn(7), bits: chance.Intn(4), ops: chance.Intn(20), halves: 9, measures: 9}
		if i%50 == 0 {
			w.qubits, w.ops = 64, 200
		}
		p := numbers(chance, 1)[0]
		if chance.Intn(10) == 0 {
			p = 1
		}
		g := given{c: w.drawn(chance), p: p, us: numbers(chance, 3*w.ops)}
		for k := range g.us {
			g.us[k] = near(chance, p, g.us[k])
		}
		if chance.Intn(5) == 0 {
			g.us = g.us[:chance.Intn(len(g.us)+1)]
		}
		draw.wantSlow(t, g)
		if _, e := slow("Draw", g); e != api.OK {
			refused++
		}
	}
	if refused < 50 {
		t.Error("too few are refused:", refused)
	}
}

// near is now and then a float next to a third of p, or two, or all of it.
func near(chance *rand.Rand, p, otherwise float64) float64 {
	if chance.Intn(2) == 0 {
		return otherwise
	}
	u := p * float64(1+chance.Intn(3)) / 3
	for range chance.Intn(3) {
		u = math.Nextafter(u, float64(chance.Intn(2)))
	}
	if u < 1 {
		return u
	}
	return below
}

// P24.3: of numbers that are evenly spread each letter comes a third of the time.
func TestDrawThirds(t *testing.T) {
	c := of(1, 0, times(4096, do(api.GateV, 0))...)
	us := make([]float64, 4096)
	for i := range us {
		us[i] = (float64(i) + 0.5) / 4096
	}
	seen := map[api.Pauli]int{}
	for _, s := range draw.answer(t, given{c: c, p: 0.75, us: us}).slips {
		seen[s.P]++
	}
	for _, letter := range []string{"+X", "+Y", "+Z"} {
		if seen[read(letter)] != 1024 {
			t.Error(letter, seen)
		}
	}
}

// P24.3: what is wrong with p is told though nothing is drawn; of numbers just as far as they are taken.
func TestDrawRefuses(t *testing.T) {
	c := written(t, 2, 1, "cx 0 1; measure 0 -> 0; y 1")
	for _, p := range []float64{-tiny, -1, math.Nextafter(1, 2), 2, inf, -inf, nan} {
		for _, g := range []given{{c: c, p: p, us: make([]float64, 3)}, {c: of(0, 0), p: p}, {c: c, p: p}} {
			draw.refuses(t, "p", g, api.ErrNoise)
		}
	}
	for _, p := range []float64{0, 0.5, 1} {
		for n := range 3 {
			draw.refuses(t, "too few numbers", given{c: c, p: p, us: make([]float64, n)}, api.ErrNoise)
		}
		for _, u := range refusedNumbers() {
			for place := range 3 {
				us := make([]float64, 5)
				us[place] = u
				draw.refuses(t, "a wrong number", given{c: c, p: p, us: us}, api.ErrNoise)
			}
			draw.answer(t, given{c: c, p: p, us: []float64{0, 0, 0, u}})
		}
	}
}
