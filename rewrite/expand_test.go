package rewrite_test

import (
	"math/rand"
	"strings"
	"testing"

	"phasor/api"
	"phasor/apply"
	"phasor/gate"
	"phasor/matrix"
)

// P18.4: the table, written out.
func TestExpand(t *testing.T) {
	swap, cz := "cx 3 1; cx 1 3; cx 3 1", "sy 1; cx 3 1; sydg 1"
	for from, to := range map[string]string{
		"swap 3 1":    swap,
		"iswap 3 1":   "s 3; s 1;" + cz + ";" + swap,
		"iswapdg 3 1": swap + ";" + cz + "; sdg 3; sdg 1",
		"cy 3 1":      "sdg 1; cx 3 1; s 1",
		"cz 3 1":      cz,
		"hh 3 1":      "s 3; sx 3; s 3; sdg 1; sxdg 1; sdg 1",
		"ccz 3 1 4":   "sy 4; ccx 3 1 4; sydg 4",
		"cswap 3 1 4": "cx 4 1; ccx 3 1 4; cx 4 1",
	} {
		expand.wantText(t, from, to)
		// Each has the condition.
		expand.wantText(t, "if 1 0 "+from, "if 1 0 "+strings.ReplaceAll(to, ";", "; if 1 0 "))
		expand.wantText(t, "x 0; if 2 1 "+from+"; measure 3 -> 0", "x 0; if 2 1 "+strings.ReplaceAll(to, ";", "; if 2 1 ")+"; measure 3 -> 0")
	}
	for _, k := range gate.Kinds() {
		if slowRow(gate.Name(k)) == "" {
			c := of(5, 3, do(k, []int{2, 0, 4}[:gate.Arity(k)]...), when(2, 0, do(k, []int{1, 3, 2}[:gate.Arity(k)]...)))
			expand.want(t, gate.Name(k), c, c)
		}
	}
	expand.stays(t, "measure 0 -> 2; reset 1; barrier 4 0 2; if 0 0 id 1")
}

// P18.4, W6: what is written does what the gate does, its phase too.
func TestExpandedMatrices(t *testing.T) {
	for _, k := range gate.Kinds() {
		for _, mixed := range [][]int{{0, 1, 2}, {2, 0, 1}, {2, 1, 0}, {1, 2, 0}} {
			c := of(3, 0, do(k, mixed[:gate.Arity(k)]...))
			m, e := apply.Unitary(c)
			n, f := apply.Unitary(expand.answer(t, c))
			if e != api.OK || f != api.OK || !matrix.Same(m, n) {
				t.Errorf("%s: %v, not %v", gate.Name(k), n, m)
			}
		}
	}
}

// P18.4: circuits at chance, against the slow way.
func TestExpandAtChance(t *testing.T) {
	chance := rand.New(rand.NewSource(1807))
	for _, c := range samples(chance, 2000) {
		d := slowExpand(t, c)
		expand.want(t, "one at chance", c, d)
		expand.want(t, "what is expanded", d, d)
	}
}

// P18.4: as many operations as there may be, and one more.
func TestExpandLimits(t *testing.T) {
	x, b := do(api.GateX, 0), barrier(1, 0)
	for _, w := range []struct {
		op   api.Op
		long int
	}{
		{do(api.GateSwap, 0, 1), 3}, {do(api.GateISw, 0, 1), 8}, {do(api.GateISwd, 1, 0), 8}, {do(api.GateCY, 0, 1), 3}, {do(api.GateCZ, 0, 1), 3},
		{do(api.GateHH, 0, 1), 6}, {do(api.GateCCZ, 0, 1, 2), 3}, {do(api.GateCSw, 0, 1, 2), 3}, {when(0, 1, do(api.GateHH, 0, 1)), 6},
	} {
		most := 4096 / w.long
		full := of(3, 1, behind(times(most, w.op), times(4096-most*w.long, x))...)
		expand.want(t, "the longest", full, slowExpand(t, full))
		full.Ops = append([]api.Op{b}, full.Ops...)
		expand.refuses(t, "one too many", full, api.ErrRewrite)
		expand.refuses(t, "one too many", of(3, 1, times(most+1, w.op)...), api.ErrRewrite)
		expand.refuses(t, "as many as a circuit may have", of(3, 1, times(4096, w.op)...), api.ErrRewrite)
	}
	expand.want(t, "gates that stay", of(3, 1, times(4096, x)...), of(3, 1, times(4096, x)...))
	expand.refuses(t, "the last one grows", of(3, 1, behind(times(4095, x), []api.Op{do(api.GateCZ, 1, 2)})...), api.ErrRewrite)
	expand.refuses(t, "the last one grows", of(3, 1, behind(times(4094, x), []api.Op{do(api.GateCZ, 1, 2)})...), api.ErrRewrite)
	expand.want(t, "the last one grows", of(3, 1, behind(times(4093, x), []api.Op{do(api.GateCY, 1, 2)})...), of(3, 1, behind(times(4093, x), ops(t, "sdg 2; cx 1 2; s 2"))...))
}
