package stab_test

import (
	"math/rand"
	"testing"

	"phasor/api"
	"phasor/stab"
)

// P15.1: what New makes stands at the beginning, of as many qubits, bits and operations as a circuit may have and of none.
func TestNew(t *testing.T) {
	for n := range 65 {
		for _, bits := range []int{0, 1, 64} {
			c := of(n, bits)
			if n > 0 {
				c.Ops = append(c.Ops, do(api.GateX, n-1))
			}
			wantLike(t, "New", machine(t, c), slowNew(c))
		}
	}
	most := of(64, 64, repeated(4096, do(api.GateHH, 63, 0))...)
	wantLike(t, "the greatest", machine(t, most), slowNew(most))
}

// P15.1: each kind of Clifford gate is taken, with a condition, too, among measurements and resets.
func TestNewTakes(t *testing.T) {
	for k := api.GateI; k <= api.GateHH; k++ {
		qubits := []int{1, 0}
		if k <= api.GateWdg {
			qubits = qubits[:1]
		}
		c := of(2, 1, do(k, qubits...), measure(0, 0), when(0, 1, do(k, qubits...)), reset(1), barrier(1, 0))
		wantLike(t, "a Clifford circuit", machine(t, c), slowNew(c))
	}
}

// P15.1: what may not be is refused ahead of what is not Clifford.
func TestNewRefuses(t *testing.T) {
	for i, c := range wrongCircuits() {
		if m, e := stab.New(c); m != nil || e != api.ErrCircuit {
			t.Error("circuit", i, e)
		}
	}
	for i, c := range otherCircuits() {
		if m, e := stab.New(c); m != nil || e != api.ErrStab {
			t.Error("no Clifford circuit", i, e)
		}
	}
}

// R1, and the chapter's words on machines that no call made: nothing is told, nothing is changed.
func TestNobodysMachine(t *testing.T) {
	for what, m := range map[string]*stab.Machine{"nil": nil, "zero": new(stab.Machine)} {
		for range 2 {
			if op, ok := m.Next(); ok || !sameOp(op, api.Op{}) {
				t.Error(what, "Next:", op, ok)
			}
			for _, u := range append(refusedNumbers(), 0, 0.5) {
				if used, e := m.Step(u); used || e != api.ErrNil {
					t.Error(what, "Step:", used, e)
				}
			}
			for _, us := range [][]float64{nil, {}, {0.5}, {nan, 0}} {
				if used, e := m.Run(us); used != 0 || e != api.ErrNil {
					t.Error(what, "Run:", used, e)
				}
			}
			if m.At() != 0 || m.Open() != 0 || !sameTableau(m.Tableau(), api.Tableau{}) || len(m.Bits()) != 0 || len(m.Log()) != 0 || m.Copy() != nil {
				t.Error(what, "tells something")
			}
		}
	}
}

// A machine of nothing at all is one that New gave nevertheless.
func TestMachineOfNothing(t *testing.T) {
	for _, m := range []*stab.Machine{machine(t, of(0, 0)), machine(t, api.Circuit{}).Copy()} {
		wantLike(t, "nothing", m, slowNew(of(0, 0)))
		if used, e := m.Run([]float64{7}); used != 0 || e != api.OK {
			t.Error("Run:", used, e)
		}
		if used, e := m.Step(0); used || e != api.ErrStab {
			t.Error("Step:", used, e)
		}
		if m.Copy() == nil {
			t.Error("Copy")
		}
	}
}

// P15.4: Copy stands at the same place, at each place; behind that neither knows of the other.
func TestCopy(t *testing.T) {
	chance := rand.New(rand.NewSource(1501))
	for range 200 {
		c := wish{qubits: 1 + chance.Intn(6), bits: chance.Intn(4), ops: chance.Intn(20), halves: 24, measures: 20}.drawn(chance)
		m, wanted := machine(t, c), slowNew(c)
		var copies []*stab.Machine
		var stands []*slow
		for range len(c.Ops) + 1 {
			copies, stands = append(copies, m.Copy()), append(stands, wanted.apart())
			u := chance.Float64()
			m.Step(u)
			wanted.step(u)
		}
		wantLike(t, "the machine", m, wanted)
		for i := range copies {
			wantLike(t, "a copy", copies[i], stands[i])
		}
		for _, i := range chance.Perm(len(copies)) {
			us := numbers(chance, len(c.Ops))
			used, e := copies[i].Run(us)
			if slowUsed, slowError := stands[i].run(us); used != slowUsed || e != slowError {
				t.Fatal("a copy's Run:", used, e)
			}
			wantLike(t, "the machine, behind a copy's run", m, wanted)
		}
		for i := range copies {
			wantLike(t, "a copy, behind the others' runs", copies[i], stands[i])
		}
	}
}

// P15.4: a copy of a copy, and several that go on in turns from a log that has room behind its end.
func TestCopiesInTurns(t *testing.T) {
	c := of(1, 2, repeated(9, do(api.GateW, 0), measure(0, 0), reset(0), measure(0, 1))...)
	machines, likes := []*stab.Machine{machine(t, c)}, []*slow{slowNew(c)}
	for range 3 {
		last := len(machines) - 1
		machines, likes = append(machines, machines[last].Copy()), append(likes, likes[last].apart())
		for range 5 {
			for i := range machines {
				u := float64(i) / 4
				machines[i].Step(u)
				likes[i].step(u)
			}
			for i := range machines {
				wantLike(t, "in turns", machines[i], likes[i])
			}
		}
	}
}

// R3: what is handed in is not kept, and what is answered is the caller's own.
func TestMachineKeepsItsOwn(t *testing.T) {
	c := of(2, 2, do(api.GateW, 0), do(api.GateCX, 0, 1), measure(0, 0), when(0, 1, do(api.GateX, 1)), measure(1, 1))
	m, wanted := machine(t, c), slowNew(c)
	c.Ops[0].Gate, c.Ops[1].Qubits[0], c.Ops[2].Bit, c.Ops[3].When = api.GateX, 1, 1, 0
	c.Ops[4] = barrier(0)
	for range 5 {
		wantLike(t, "behind changes", m, wanted)
		op, _ := m.Next()
		a, bits, log, k := m.Tableau(), m.Bits(), m.Log(), m.Copy()
		op.Qubits[0], bits[0], bits[1] = 9, 5, 5
		a.Stab[0], a.Stab[1], a.Destab[0], a.Destab[1] = api.Pauli{}, api.Pauli{}, api.Pauli{}, api.Pauli{}
		_, _ = append(a.Stab, a.Stab[0]), append(a.Destab, a.Stab[0])
		for i := range log {
			log[i] = api.Outcome{Op: 99}
		}
		_ = append(log, api.Outcome{Op: 98})
		wantLike(t, "behind changes of answers", m, wanted)
		wantLike(t, "a copy behind changes of answers", k, wanted)
		m.Step(0.25)
		wanted.step(0.25)
	}
	wantLike(t, "at the end", m, wanted)
}

// R3: what is handed in is not changed.
func TestArgumentsStay(t *testing.T) {
	c, us, a := bell(), []float64{0.25, 0.75, nan}, table("-ZI", "+ZZ", "+XX", "+IX")
	machine(t, c).Run(us)
	stab.State(a)
	for i, op := range bell().Ops {
		if !sameOp(c.Ops[i], op) {
			t.Error("operation", i, "was changed")
		}
	}
	if us[0] != 0.25 || us[1] != 0.75 || us[2] == us[2] || !sameTableau(a, table("-ZI", "+ZZ", "+XX", "+IX")) {
		t.Error("an argument was changed")
	}
}

// R4: two machines of one circuit know nothing of one another.
func TestMachinesApart(t *testing.T) {
	a, b := machine(t, bell()), machine(t, bell())
	a.Run([]float64{0.3, 0.9})
	wantLike(t, "the other", b, slowNew(bell()))
	b.Run([]float64{0.9, 0.9})
	wanted := slowNew(bell())
	wanted.run([]float64{0.3, 0.9})
	wantLike(t, "the first", a, wanted)
}
