package rewrite_test

import (
	"math/rand"
	"testing"

	"phasor/api"
	"phasor/gate"
)

// P18.7: by hand: what commutes is passed over, but not with a condition.
func TestSlide(t *testing.T) {
	for _, w := range [][2]string{
		{"cx 0 1; cx 0 2; cx 3 1; cx 0 1", "cx 0 2; cx 3 1"},
		{"cx 0 1; x 1; sx 1; s 0; cz 0 2; cx 0 1", "x 1; sx 1; s 0; cz 0 2"},
		{"s 0; cz 0 1; ccz 2 1 0; z 0; sdg 0", "cz 0 1; ccz 2 1 0; z 0"},
		{"cz 0 1; s 0; s 1; cx 0 2; cz 1 0", "s 0; s 1; cx 0 2"},
		{"ccx 0 1 2; cx 1 2; x 2; z 0; ccx 1 0 2", "cx 1 2; x 2; z 0"},
		{"swap 0 1; cz 1 0; hh 0 1; swap 1 0", "cz 1 0; hh 0 1"},
		{"x 0; sx 0; x 0; sxdg 0", ""},
		{"sx 0; x 0; sxdg 0", "x 0"},
		{"id 0; s 0; id 0; z 0; sdg 0", "z 0"},
		{"z 0; s 0; z 0; s 1; measure 2 -> 0; z 1; sdg 1", "s 0; measure 2 -> 0; z 1"},
		{"s 0; measure 1 -> 0; if 0 1 x 2; reset 3; z 0; sdg 0", "measure 1 -> 0; if 0 1 x 2; reset 3; z 0"},
		// The nearest of several that undo it.
		{"cz 0 1; s 0; cz 1 0; s 1; cz 0 1", "s 0; s 1; cz 0 1"},
		{"s 0; s 0; sdg 0", "s 0"},
	} {
		slide.wantText(t, w[0], w[1])
	}
	for _, s := range []string{
		"x 0; cx 0 1; x 0", "z 1; cx 0 1; z 1", "cx 0 1; cx 1 2; cx 0 1", "s 0; x 0; sdg 0", "x 0; y 0; x 0", "s 0; s 0", "z 0; s 0; s 0",
		"s 0; if 0 1 z 0; sdg 0", "s 0; if 0 0 id 0; sdg 0", "s 0; barrier 0; sdg 0", "s 0; measure 0 -> 0; sdg 0", "s 0; reset 0; sdg 0",
		"if 0 1 s 0; z 0; sdg 0", "s 0; z 0; if 0 1 sdg 0", "if 1 1 x 0; if 1 1 x 0",
		"cx 0 1; s 0; x 0; cx 0 1",
	} {
		slide.stays(t, s)
	}
}

// P18.7: past each kind in each way in which it meets a gate: just if layer 6 says that both commute.
func TestSlidePastEachKind(t *testing.T) {
	lists := [][]int{{0, 1, 2}, {1, 0, 2}, {2, 1, 0}, {1, 2, 0}, {0, 3, 1}, {3, 0, 1}, {3, 4, 0}, {3, 0, 4}, {0, 3, 4}, {1, 3, 4}, {3, 2, 4}, {3, 4, 1}}
	for _, a := range gate.Kinds() {
		for _, b := range gate.Kinds() {
			aq := []int{0, 1, 2}[:gate.Arity(a)]
			for _, l := range lists {
				bq := l[:gate.Arity(b)]
				first, between, last := do(a, aq...), do(b, bq...), do(gate.Inverse(a), aq...)
				c := of(5, 0, first, between, last)
				wanted := slowSlide(c)
				is, e := gate.Commute(a, aq, b, bq)
				if e != api.OK || a != api.GateI && b != api.GateI && !undoes(between, last) && !undoes(first, between) && (len(wanted.Ops) == 1) != is {
					t.Fatalf("%v: %v", c, wanted)
				}
				slide.want(t, gate.Name(a)+" past "+gate.Name(b), c, wanted)
			}
		}
	}
}

// P18.7: circuits at chance, against the slow way.
func TestSlideAtChance(t *testing.T) {
	chance := rand.New(rand.NewSource(1808))
	farther := 0
	for _, c := range samples(chance, 4000) {
		d := slowSlide(c)
		slide.want(t, "one at chance", c, d)
		if len(d.Ops) < len(slowCancel(c).Ops) {
			farther++
		}
	}
	if farther < 500 {
		t.Error("too few came farther than Cancel:", farther)
	}
}

// P18.7: the longest there may be: all of it commutes.
func TestLongSlide(t *testing.T) {
	cz, ccz, z := do(api.GateCZ, 0, 1), do(api.GateCCZ, 0, 1, 2), do(api.GateZ, 0)
	slide.want(t, "what undoes the first at the end", of(3, 0, behind([]api.Op{cz}, times(4094, do(api.GateS, 0)), []api.Op{do(api.GateCZ, 1, 0)})...), of(3, 0, times(4094, do(api.GateS, 0))...))
	slide.want(t, "all goes", of(3, 0, times(1365, cz, ccz, z)...), of(3, 0, cz, ccz, z))
	slide.want(t, "all goes", of(3, 0, times(1364, cz, ccz, z)...), of(3, 0))
	var l []api.Op
	for i := range 2048 {
		l = append(l, do(api.GateCX, i%32, 32+i/32%32))
	}
	slide.want(t, "controls and targets apart", of(64, 0, behind(l, l)...), of(64, 0))
	slide.want(t, "half of it", of(64, 0, behind(l[:1024], l[:1000])...), of(64, 0, l[1000:1024]...))
}
