package run_test

import (
	"math/rand"
	"testing"

	"phasor/api"
	"phasor/run"
)

// P12.1: what New makes stands at the beginning, of as many qubits as a state may have and of none.
func TestNew(t *testing.T) {
	for n := range 13 {
		for _, bits := range []int{0, 1, 64} {
			c := of(n, bits)
			if n > 0 {
				c.Ops = append(c.Ops, do(api.GateX, n-1))
			}
			wantLike(t, "New", machine(t, c), slowNew(c))
		}
	}
	if m, e := run.New(of(12, 64, repeated(4096, barrier(11))...)); m == nil || e != api.OK {
		t.Error("the greatest:", e)
	}
}

// P12.1: what may not be is refused ahead of what is too wide.
func TestNewRefuses(t *testing.T) {
	for i, c := range wrongCircuits() {
		if m, e := run.New(c); m != nil || e != api.ErrCircuit {
			t.Error("circuit", i, e)
		}
	}
	for i, c := range wideCircuits() {
		if m, e := run.New(c); m != nil || e != api.ErrState {
			t.Error("wide circuit", i, e)
		}
	}
}

// P12.1: From begins with any state and any bits, noughts with a sign, infinities and NaN among them.
func TestFrom(t *testing.T) {
	chance := rand.New(rand.NewSource(1201))
	for n := range 13 {
		for _, s := range [][]complex128{odd(chance, 1<<n), tame(chance, 1<<n), make([]complex128, 1<<n)} {
			for _, bits := range []int{0, 1, 2, 63, 64} {
				l := someBits(chance, bits)
				c := of(n, bits)
				wantLike(t, "From", from(t, c, s, l), slowFrom(c, s, l))
			}
		}
	}
	// Of lists their lengths alone count.
	m := from(t, of(1, 0), append(make([]complex128, 0, 9), 1, 0), make([]int, 0, 5))
	wantLike(t, "room behind the end", m, slowNew(of(1, 0)))
	m = from(t, of(0, 0), []complex128{5i}, nil)
	wantLike(t, "no qubit", m, slowFrom(of(0, 0), []complex128{5i}, nil))
}

// P12.1: the circuit is refused ahead of the state, and that ahead of the bits.
func TestFromRefuses(t *testing.T) {
	refuse := func(what string, c api.Circuit, s []complex128, bits []int, wanted api.Errno) {
		t.Helper()
		if m, e := run.From(c, s, bits); m != nil || e != wanted {
			t.Errorf("%s: error %d, not %d", what, e, wanted)
		}
	}
	wrongStates := [][]complex128{nil, {}, {1}, {1, 0}, {1, 0, 0}, make([]complex128, 3, 4), make([]complex128, 5), make([]complex128, 8), make([]complex128, 4096), make([]complex128, 8192)}
	wrongBits := [][]int{nil, {}, {0}, {0, 0, 0}, {2, 0}, {0, 2}, {-1, 0}, {0, -1}, {1, great}, {least, 1}, {0, 1 << 32}, make([]int, 1, 2), make([]int, 64)}
	for _, c := range wrongCircuits() {
		refuse("a wrong circuit", c, []complex128{1, 0}, []int{0}, api.ErrCircuit)
		refuse("all wrong", c, wrongStates[4], wrongBits[4], api.ErrCircuit)
	}
	for _, s := range wrongStates {
		refuse("a wrong state", of(2, 2), s, []int{0, 1}, api.ErrState)
		for _, bits := range wrongBits {
			refuse("a wrong state and wrong bits", of(2, 2), s, bits, api.ErrState)
		}
	}
	for _, c := range wideCircuits() {
		refuse("a wide circuit", c, make([]complex128, 4096), make([]int, c.Bits), api.ErrState)
		refuse("a wide circuit, a long row", c, make([]complex128, 1<<13), make([]int, c.Bits), api.ErrState)
		refuse("a wide circuit, no row", c, nil, []int{2}, api.ErrState)
	}
	for _, bits := range wrongBits {
		refuse("wrong bits", of(2, 2), []complex128{1, 0, 0, 0}, bits, api.ErrRun)
	}
	refuse("a bit that is not there", of(1, 0), []complex128{1, 0}, []int{0}, api.ErrRun)
}

// R1, and the chapter's words on machines that no call made: nothing is told, nothing is changed.
func TestNobodysMachine(t *testing.T) {
	for what, m := range map[string]*run.Machine{"nil": nil, "zero": new(run.Machine)} {
		for range 2 {
			if op, ok := m.Next(); ok || !sameOp(op, api.Op{}) {
				t.Error(what, "Next:", op, ok)
			}
			for _, u := range append(refusedNumbers(), 0, 0.5) {
				if used, e := m.Step(u); used || e != api.ErrNil {
					t.Error(what, "Step:", used, e)
				}
			}
			for _, us := range [][]float64{nil, {}, {0.5}, {nan, 0}} {
				if used, e := m.Run(us); used != 0 || e != api.ErrNil {
					t.Error(what, "Run:", used, e)
				}
			}
			if m.At() != 0 || len(m.State()) != 0 || len(m.Bits()) != 0 || len(m.Log()) != 0 || m.Copy() != nil {
				t.Error(what, "tells something")
			}
		}
	}
}

// P12.4: Copy stands at the same place, at each place; behind that neither knows of the other.
func TestCopy(t *testing.T) {
	chance := rand.New(rand.NewSource(1202))
	for range 300 {
		c := wish{qubits: 1 + chance.Intn(4), bits: chance.Intn(4), ops: chance.Intn(20), halves: 24, measures: 20}.drawn(chance)
		m, wanted := machine(t, c), slowNew(c)
		var copies []*run.Machine
		var stands []*slow
		for range len(c.Ops) + 1 {
			k, stand := m.Copy(), *wanted
			stand.s, stand.bits, stand.log = append([]complex128{}, stand.s...), append([]int{}, stand.bits...), append([]api.Outcome{}, stand.log...)
			copies, stands = append(copies, k), append(stands, &stand)
			u := chance.Float64()
			m.Step(u)
			wanted.step(t, u)
		}
		wantLike(t, "the machine", m, wanted)
		for i := range copies {
			wantLike(t, "a copy", copies[i], stands[i])
		}
		for _, i := range chance.Perm(len(copies)) {
			us := numbers(chance, len(c.Ops))
			used, e := copies[i].Run(us)
			if slowUsed, slowError := stands[i].run(t, us); used != slowUsed || e != slowError {
				t.Fatal("a copy's Run:", used, e)
			}
			wantLike(t, "the machine, behind a copy's run", m, wanted)
		}
		for i := range copies {
			wantLike(t, "a copy, behind the others' runs", copies[i], stands[i])
		}
	}
}

// P12.4: a copy of a copy, and two that go on in turns from a log that has room behind its end.
func TestCopiesInTurns(t *testing.T) {
	c := of(1, 2, repeated(9, do(api.GateW, 0), measure(0, 0), reset(0), measure(0, 1))...)
	m, wanted := machine(t, c), slowNew(c)
	machines, likes := []*run.Machine{m}, []*slow{wanted}
	for range 3 {
		k := machines[len(machines)-1].Copy()
		stand := *likes[len(likes)-1]
		stand.bits, stand.log = append([]int{}, stand.bits...), append([]api.Outcome{}, stand.log...)
		machines, likes = append(machines, k), append(likes, &stand)
		for range 5 {
			for i := range machines {
				u := float64(i) / 4
				machines[i].Step(u)
				likes[i].step(t, u)
			}
			for i := range machines {
				wantLike(t, "in turns", machines[i], likes[i])
			}
		}
	}
}

// R3: what is handed in is not kept, and what is answered is the caller's own.
func TestMachineKeepsItsOwn(t *testing.T) {
	c := of(2, 2, do(api.GateW, 0), do(api.GateCX, 0, 1), measure(0, 0), when(0, 1, do(api.GateX, 1)), measure(1, 1))
	s, bits := []complex128{1, 0, 0, 0}, []int{0, 1}
	spoil := func() {
		c.Ops[0].Gate, c.Ops[1].Qubits[0], c.Ops[2].Bit, c.Ops[3].When = api.GateX, 1, 1, 0
		c.Ops[4] = barrier(0)
		s[0], s[1], bits[1] = 7, 7, 0
	}
	begin := deep(c)
	m, fresh := from(t, c, s, bits), machine(t, c)
	kept, freshWanted := slowFrom(begin, s, bits), slowNew(begin)
	spoil()
	for _, pair := range []struct {
		m      *run.Machine
		wanted *slow
	}{{m, kept}, {fresh, freshWanted}} {
		for range 5 {
			wantLike(t, "behind changes", pair.m, pair.wanted)
			op, _ := pair.m.Next()
			s, bits, log := pair.m.State(), pair.m.Bits(), pair.m.Log()
			op.Qubits[0], s[0], s[3], bits[0], bits[1] = 9, 9, 9, 5, 5
			for i := range log {
				log[i] = api.Outcome{Op: 99}
			}
			_ = append(log, api.Outcome{Op: 98})
			wantLike(t, "behind changes of answers", pair.m, pair.wanted)
			pair.m.Step(0.25)
			pair.wanted.step(t, 0.25)
		}
		wantLike(t, "at the end", pair.m, pair.wanted)
	}
}

// R3: what is handed in is not changed.
func TestArgumentsStay(t *testing.T) {
	c, s, bits, us := bell(), []complex128{complex(minus0, 1), 0, 0, 0}, []int{1, 0}, []float64{0.25, 0.75, nan}
	m := from(t, c, s, bits)
	m.Run(us)
	come(t, c, us...)
	for range run.Branches(c) {
	}
	run.Tally(c)
	for i, op := range bell().Ops {
		if !sameOp(c.Ops[i], op) {
			t.Error("operation", i, "was changed")
		}
	}
	if !sameState(s, []complex128{complex(minus0, 1), 0, 0, 0}) || bits[0] != 1 || bits[1] != 0 || us[0] != 0.25 || us[1] != 0.75 || us[2] == us[2] {
		t.Error("an argument was changed")
	}
}

// R4: two machines of one circuit know nothing of one another.
func TestMachinesApart(t *testing.T) {
	a, b := machine(t, bell()), machine(t, bell())
	a.Run([]float64{0.3, 0.9})
	wantLike(t, "the other", b, slowNew(bell()))
	b.Run([]float64{0.9, 0.9})
	wanted := slowNew(bell())
	wanted.run(t, []float64{0.3, 0.9})
	wantLike(t, "the first", a, wanted)
}
