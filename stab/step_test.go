package stab_test

import (
	"math/rand"
	"slices"
	"testing"

	"phasor/api"
)

// P15.2: step by step against the chapters' words, to the end and past it, with numbers of which some are refused.
func TestStep(t *testing.T) {
	chance := rand.New(rand.NewSource(1502))
	refused := refusedNumbers()
	for _, n := range []int{1, 2, 3, 5, 8, 12, 13, 31, 32, 33, 63, 64} {
		for range 2 + 100/n {
			c := wish{qubits: n, bits: chance.Intn(5), ops: chance.Intn(40 + n), halves: 200, measures: 200}.drawn(chance)
			m, wanted := machine(t, c), slowNew(c)
			wantLike(t, "at the beginning", m, wanted)
			for range len(c.Ops) + 5 {
				u := numbers(chance, 1)[0]
				if chance.Intn(5) == 0 {
					u = refused[chance.Intn(len(refused))]
				}
				slowUsed, slowError := wanted.step(u)
				if used, e := m.Step(u); used != slowUsed || e != slowError {
					t.Fatalf("Step of %v at %d: %v, %d, not %v, %d", u, wanted.at, used, e, slowUsed, slowError)
				}
				wantLike(t, "behind a step", m, wanted)
			}
		}
	}
}

// P15.2: by hand: a gate has its condition looked at as the bit is then; every kind of operation tells whether it used the number.
func TestStepByHand(t *testing.T) {
	m := machine(t, of(2, 3,
		barrier(1, 0),
		do(api.GateX, 1),
		measure(1, 2),
		when(2, 1, do(api.GateX, 0)),
		when(2, 0, do(api.GateX, 0)),
		when(0, 0, do(api.GateW, 0)),
		when(0, 1, do(api.GateX, 0)),
		reset(1),
		when(2, 1, do(api.GateY, 1)),
		measure(0, 2),
		reset(0),
	))
	for i, w := range []struct {
		used bool
		stab []api.Pauli
		bit  int
	}{
		{false, read("+ZI", "+IZ"), 0},
		{false, read("+ZI", "-IZ"), 0},
		{true, read("+ZI", "-IZ"), 1},
		{false, read("-ZI", "-IZ"), 1},
		{false, read("-ZI", "-IZ"), 1},
		{false, read("-XI", "-IZ"), 1},
		{false, read("-XI", "-IZ"), 1},
		{true, read("-XI", "+IZ"), 1},
		{false, read("-XI", "-IZ"), 1},
		{true, read("+ZI", "-IZ"), 0},
		{true, read("+ZI", "-IZ"), 0},
	} {
		used, e := m.Step(0.5)
		if used != w.used || e != api.OK || !slices.Equal(m.Tableau().Stab, w.stab) || m.Bits()[2] != w.bit || m.At() != i+1 {
			t.Errorf("step %d: %v, %d, tableau %v, bits %v", i, used, e, m.Tableau(), m.Bits())
		}
	}
	if l := m.Log(); !sameLog(l, []api.Outcome{{Op: 2, Qubit: 1, Bit: 2, Value: 1, One: 1}, {Op: 7, Qubit: 1, Bit: -1, Value: 1, One: 1}, {Op: 9, Bit: 2, Zero: 0.5, One: 0.5}, {Op: 10, Bit: -1, Zero: 1}}) || m.Open() != 1 {
		t.Error("the log:", l, m.Open())
	}
}

// P15.2: an open outcome is 1 below a half, and 0 from a half on; a sure one is what it is, whatever the number.
func TestStepDecides(t *testing.T) {
	for _, u := range []float64{0, minus0, tiny, 0.25, under, 0.5, 0.5 + 0x1p-53, 0.75, below} {
		open := 0
		if u < 0.5 {
			open = 1
		}
		for _, c := range []struct {
			ahead     api.GateKind
			value     int
			zero, one float64
		}{{api.GateZ, 0, 1, 0}, {api.GateX, 1, 0, 1}, {api.GateW, open, 0.5, 0.5}, {api.GateV, open, 0.5, 0.5}} {
			m := ended(t, of(1, 1, do(c.ahead, 0), measure(0, 0)), u)
			wanted := []api.Outcome{{Op: 1, Value: c.value, Zero: c.zero, One: c.one}}
			if !sameLog(m.Log(), wanted) || m.Bits()[0] != c.value || !slices.Equal(m.Tableau().Stab, []api.Pauli{{N: 1, Z: 1, Phase: 2 * c.value}}) {
				t.Error("measured:", u, c, m.Log(), m.Bits(), m.Tableau())
			}
			m = ended(t, of(1, 1, do(c.ahead, 0), reset(0)), u)
			wanted[0].Bit = -1
			if !sameLog(m.Log(), wanted) || m.Bits()[0] != 0 || !slices.Equal(m.Tableau().Stab, read("+Z")) {
				t.Error("reset:", u, c, m.Log(), m.Bits(), m.Tableau())
			}
		}
	}
}

// P15.2: gates, done or not, and barriers take whatever number there is; measurements and resets refuse those that Choose does, though one value alone is possible, and nothing is done.
func TestStepNumbers(t *testing.T) {
	for _, u := range refusedNumbers() {
		for _, op := range []api.Op{do(api.GateX, 0), when(0, 1, do(api.GateX, 0)), when(0, 0, do(api.GateX, 0)), barrier(0)} {
			if used, e := machine(t, of(1, 1, op)).Step(u); used || e != api.OK {
				t.Errorf("kind %d with %v: %v, %d", op.Kind, u, used, e)
			}
		}
		for _, ahead := range []api.GateKind{api.GateI, api.GateX, api.GateW} {
			for _, op := range []api.Op{measure(0, 0), reset(0)} {
				c := of(1, 1, do(ahead, 0), op)
				m, wanted := machine(t, c), slowNew(c)
				m.Step(u)
				wanted.step(u)
				for range 2 {
					if used, e := m.Step(u); used || e != api.ErrStab {
						t.Errorf("kind %d with %v: %v, %d", op.Kind, u, used, e)
					}
					wantLike(t, "refused", m, wanted)
				}
				if used, e := m.Step(0); !used || e != api.OK {
					t.Error("once more:", used, e)
				}
			}
		}
	}
}

// P15.2: at the end there is nothing to be done.
func TestStepAtTheEnd(t *testing.T) {
	for _, c := range []api.Circuit{of(0, 0), of(64, 64), bell(), of(1, 1, reset(0))} {
		us := []float64{0.5, 0.5}
		m, wanted := ended(t, c, us...), slowNew(c)
		wanted.run(us)
		for _, u := range append(refusedNumbers(), 0, 0.5) {
			if used, e := m.Step(u); used || e != api.ErrStab {
				t.Error(used, e)
			}
			wantLike(t, "at the end", m, wanted)
		}
	}
}

// P15.3: runs against the chapters' words, with enough numbers, too few, and refused ones among them; then once more from there.
func TestRun(t *testing.T) {
	chance := rand.New(rand.NewSource(1503))
	refused := refusedNumbers()
	for range 400 {
		n := 1 + chance.Intn(10)
		c := wish{qubits: n, bits: chance.Intn(4), ops: chance.Intn(60), halves: 60, measures: 60}.drawn(chance)
		m, wanted := machine(t, c), slowNew(c)
		for range 4 {
			us := numbers(chance, chance.Intn(measurements(c)+3))
			if len(us) > 0 && chance.Intn(2) == 0 {
				us[chance.Intn(len(us))] = refused[chance.Intn(len(refused))]
			}
			used, e := m.Run(us)
			if slowUsed, slowError := wanted.run(us); used != slowUsed || e != slowError {
				t.Fatalf("Run: %d, %d, not %d, %d", used, e, slowUsed, slowError)
			}
			wantLike(t, "behind a run", m, wanted)
		}
	}
}

// P15.3: by hand: where the machine stands behind a refusal, and what is left over is not looked at.
func TestRunByHand(t *testing.T) {
	c := of(1, 1, barrier(0), measure(0, 0), do(api.GateX, 0), reset(0), do(api.GateW, 0), measure(0, 0), do(api.GateZ, 0))
	for _, w := range []struct {
		us       []float64
		used, at int
		e        api.Errno
	}{
		{nil, 0, 1, api.ErrStab},
		{[]float64{0}, 1, 3, api.ErrStab},
		{[]float64{nan, 0, 0}, 0, 1, api.ErrStab},
		{[]float64{0, 1, 0}, 1, 3, api.ErrStab},
		{[]float64{0, below, -tiny, 0}, 2, 5, api.ErrStab},
		{[]float64{0, 0, 0}, 3, 7, api.OK},
		{[]float64{0, 0, 0, nan, 7}, 3, 7, api.OK},
		{make([]float64, 2, 3), 2, 5, api.ErrStab},
	} {
		m := machine(t, c)
		if used, e := m.Run(w.us); used != w.used || e != w.e || m.At() != w.at || len(m.Log()) != w.used {
			t.Errorf("%v: %d, %d, at %d, log %v", w.us, used, e, m.At(), m.Log())
		}
	}
	m := machine(t, of(1, 0, repeated(4096, do(api.GateX, 0))...))
	if used, e := m.Run(nil); used != 0 || e != api.OK || m.At() != 4096 {
		t.Error("no number is needed:", used, e, m.At())
	}
	if used, e := m.Run([]float64{nan}); used != 0 || e != api.OK {
		t.Error("Run at the end:", used, e)
	}
}

// P15.2, P15.4: of qubits that are 0 or 1 alone, each is what bits would be, up to 64 of them.
func TestRunOfBits(t *testing.T) {
	chance := rand.New(rand.NewSource(1504))
	for _, n := range []int{2, 13, 33, 64} {
		c, qubits, bits := of(n, 64), make([]int, n), make([]int, 64)
		for range 300 {
			l := chance.Perm(n)
			a, b, bit := l[0], l[1], chance.Intn(64)
			switch chance.Intn(6) {
			case 0:
				c.Ops, qubits[a] = append(c.Ops, do(api.GateX, a)), 1-qubits[a]
			case 1:
				c.Ops, qubits[b] = append(c.Ops, do(api.GateCX, a, b)), qubits[a]^qubits[b]
			case 2:
				c.Ops = append(c.Ops, do(api.GateSwap, a, b))
				qubits[a], qubits[b] = qubits[b], qubits[a]
			case 3:
				c.Ops, bits[bit] = append(c.Ops, measure(a, bit)), qubits[a]
			case 4:
				c.Ops, qubits[a] = append(c.Ops, reset(a)), 0
			case 5:
				value := chance.Intn(2)
				c.Ops = append(c.Ops, when(bit, value, do(api.GateY, a)))
				if bits[bit] == value {
					qubits[a] = 1 - qubits[a]
				}
			}
		}
		m := ended(t, c, numbers(chance, measurements(c))...)
		if !slices.Equal(m.Bits(), bits) || m.Open() != 0 {
			t.Error(n, m.Bits(), bits, m.Open())
		}
		for q, p := range m.Tableau().Stab {
			sum := 0
			for i := range n {
				sum += int(p.Z>>i&1) * qubits[i]
			}
			if p.X != 0 || p.Phase != 2*(sum%2) {
				t.Error(n, q, p, qubits)
			}
		}
	}
}

// P15.2, P15.4: 64 qubits in one row: the first outcome is open, all others are like it.
func TestRunOfARow(t *testing.T) {
	c := of(64, 64, do(api.GateW, 63))
	for q := 63; q > 0; q-- {
		c.Ops = append(c.Ops, do(api.GateCX, q, q-1))
	}
	for q := range 64 {
		c.Ops = append(c.Ops, measure(q, 63-q))
	}
	for u, value := range map[float64]int{0: 1, under: 1, 0.5: 0, below: 0} {
		us := slices.Repeat([]float64{1 - u - 0x1p-53}, 64)
		us[0] = u
		m := ended(t, c, us...)
		if m.Open() != 1 || !slices.Equal(m.Bits(), slices.Repeat([]int{value}, 64)) {
			t.Error(u, m.Open(), m.Bits())
		}
		for i, o := range m.Log() {
			sure := api.Outcome{Op: 64 + i, Qubit: i, Bit: 63 - i, Value: value, Zero: float64(1 - value), One: float64(value)}
			if i == 0 {
				sure.Zero, sure.One = 0.5, 0.5
			}
			if o != sure {
				t.Error(o, sure)
			}
		}
	}
}

// P15.4: many open outcomes, of as many operations as there may be; what is read ahead of the end is as it is then.
func TestOpen(t *testing.T) {
	m := machine(t, of(2, 1, repeated(1024, do(api.GateHH, 0, 1), measure(0, 0), reset(1), reset(1))...))
	for round := range 1024 {
		if m.Open() != 2*round || len(m.Log()) != 3*round || m.At() != 4*round {
			t.Fatal(round, m.Open(), len(m.Log()), m.At())
		}
		for _, u := range []float64{nan, 0.25, 0.75, 0.25} {
			if _, e := m.Step(u); e != api.OK {
				t.Fatal("Step:", e)
			}
		}
		if m.Bits()[0] != 1 {
			t.Fatal(round, m.Bits())
		}
	}
}
