package fuse_test

import (
	"slices"
	"testing"

	"phasor/api"
	"phasor/apply"
	"phasor/matrix"
	"phasor/plane"
	"phasor/run"
)

// The chapter written a second time, sentence by sentence.

// qubitsOf are all qubits of the gates at some places, rising.
func qubitsOf(c api.Circuit, places []int) []int {
	var l []int
	for q := range c.Qubits {
		if slices.ContainsFunc(places, func(place int) bool { return slices.Contains(c.Ops[place].Qubits, q) }) {
			l = append(l, q)
		}
	}
	return l
}

// slowPlan is P16.1.
func slowPlan(c api.Circuit, k int) [][]int {
	var rows [][]int
	wall := 0
	for place, op := range c.Ops {
		if op.Kind == api.OpBarrier {
			wall = len(rows)
			continue
		}
		touches := func(row []int) bool {
			return slices.ContainsFunc(op.Qubits, func(q int) bool { return slices.Contains(qubitsOf(c, row), q) })
		}
		fits := func(row []int) bool { return len(qubitsOf(c, append(slices.Clone(row), place))) <= k }
		found, t := -1, -1
		for i := wall; i < len(rows); i++ {
			if touches(rows[i]) {
				t = i
			}
		}
		if t >= 0 && fits(rows[t]) {
			found = t
		} else {
			for i := max(t+1, wall); i < len(rows) && found < 0; i++ {
				if fits(rows[i]) {
					found = i
				}
			}
		}
		if found < 0 {
			found = len(rows)
			rows = append(rows, nil)
		}
		rows[found] = append(rows[found], place)
	}
	return rows
}

// slowBlocks is P16.2: column by column, gate by gate.
func slowBlocks(t *testing.T, c api.Circuit, k int) []api.Block {
	t.Helper()
	var l []api.Block
	for _, row := range slowPlan(c, k) {
		qubits := qubitsOf(c, row)
		n := 1 << len(qubits)
		m := api.Matrix{N: n, E: make([]complex128, n*n)}
		for column := range n {
			s := basis(len(qubits), column)
			for _, place := range row {
				var on []int
				for _, q := range c.Ops[place].Qubits {
					on = append(on, slices.Index(qubits, q))
				}
				s = gated(t, s, do(c.Ops[place].Gate, on...))
			}
			for i, z := range s {
				m.E[n*i+column] = z
			}
		}
		l = append(l, api.Block{Qubits: qubits, Gates: len(row), M: m})
	}
	return l
}

func gated(t *testing.T, s []complex128, op api.Op) []complex128 {
	t.Helper()
	l, e := apply.Gate(s, op.Gate, op.Qubits)
	if e != api.OK {
		t.Fatal("Gate:", e)
	}
	return l
}

// slowApply is P16.3, group by group, of blocks that fit.
func slowApply(t *testing.T, s []complex128, l []api.Block) []complex128 {
	t.Helper()
	for _, b := range l {
		next := slices.Clone(s)
		for first := range s {
			if slices.ContainsFunc(b.Qubits, func(q int) bool { return first>>q&1 == 1 }) {
				continue
			}
			place := func(j int) int {
				at := first
				for i, q := range b.Qubits {
					at += (j >> i & 1) << q
				}
				return at
			}
			var x []complex128
			for j := range b.M.N {
				x = append(x, s[place(j)])
			}
			x, e := matrix.Act(b.M, x)
			if e != api.OK {
				t.Fatal("Act:", e)
			}
			for j, z := range x {
				next[place(j)] = plane.Clean(z)
			}
		}
		s = next
	}
	return s
}

// slowRun is P16.4: what does not fuse is done by the plain machine, operation by operation.
func slowRun(t *testing.T, c api.Circuit, k int, us []float64) (api.Result, api.Errno) {
	t.Helper()
	x := api.Result{State: basis(c.Qubits, 0), Bits: make([]int, c.Bits)}
	var waiting []api.Op
	flush := func() {
		x.State = slowApply(t, x.State, slowBlocks(t, of(c.Qubits, 0, waiting...), k))
		waiting = nil
	}
	for place, op := range c.Ops {
		if op.Kind == api.OpBarrier || op.Kind == api.OpGate && op.If == -1 {
			waiting = append(waiting, op)
			continue
		}
		flush()
		m, e := run.From(of(c.Qubits, c.Bits, op), x.State, x.Bits)
		if e != api.OK {
			t.Fatal("From:", e)
		}
		used, e := m.Run(us[x.Used:])
		if e != api.OK {
			return api.Result{}, e
		}
		x.State, x.Bits, x.Used = m.State(), m.Bits(), x.Used+used
		for _, o := range m.Log() {
			o.Op = place
			x.Log = append(x.Log, o)
		}
	}
	flush()
	return x, api.OK
}

func measurements(c api.Circuit) int {
	n := 0
	for _, op := range c.Ops {
		if op.Kind == api.OpMeasure || op.Kind == api.OpReset {
			n++
		}
	}
	return n
}
