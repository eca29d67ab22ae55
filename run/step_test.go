package run_test

import (
	"math/rand"
	"testing"

	"phasor/api"
	"phasor/run"
)

// walk steps two machines to the end and past it, with numbers of which some are refused.
func walk(t *testing.T, chance *rand.Rand, m *run.Machine, wanted *slow) {
	t.Helper()
	refused := refusedNumbers()
	wantLike(t, "at the beginning", m, wanted)
	for range len(wanted.c.Ops) + 5 {
		u := numbers(chance, 1)[0]
		if chance.Intn(5) == 0 {
			u = refused[chance.Intn(len(refused))]
		}
		slowUsed, slowError := wanted.step(t, u)
		if used, e := m.Step(u); used != slowUsed || e != slowError {
			t.Fatalf("Step of %v at %d: %v, %d, not %v, %d", u, wanted.at, used, e, slowUsed, slowError)
		}
		wantLike(t, "behind a step", m, wanted)
	}
}

// P12.2: step by step against the chapter's words, from the beginning, and from states of any floats.
func TestStep(t *testing.T) {
	chance := rand.New(rand.NewSource(1203))
	for n := 1; n <= 7; n++ {
		for range 150 >> (n / 2) {
			c := wish{qubits: n, bits: chance.Intn(4), ops: chance.Intn(30), halves: 40, measures: 30}.drawn(chance)
			walk(t, chance, machine(t, c), slowNew(c))
			for _, s := range [][]complex128{odd(chance, 1<<n), tame(chance, 1<<n), make([]complex128, 1<<n)} {
				bits := someBits(chance, c.Bits)
				walk(t, chance, from(t, c, s, bits), slowFrom(c, s, bits))
			}
		}
	}
	for range 3 {
		c := wish{qubits: 12, bits: 64, ops: 40, halves: 40, measures: 40}.drawn(chance)
		walk(t, chance, machine(t, c), slowNew(c))
	}
}

// P12.2: a gate has its condition looked at as the bit is then; every kind of operation tells whether it used the number.
func TestStepByHand(t *testing.T) {
	c := of(2, 3,
		barrier(1, 0),
		do(api.GateX, 1),
		measure(1, 2),
		when(2, 1, do(api.GateX, 0)),
		when(2, 0, do(api.GateX, 0)),
		when(0, 0, do(api.GateS, 0)),
		when(0, 1, do(api.GateX, 0)),
		reset(1),
		when(2, 1, do(api.GateY, 1)),
		measure(0, 2),
	)
	m := machine(t, c)
	for i, w := range []struct {
		used  bool
		state []complex128
		bit   int
	}{
		{false, []complex128{1, 0, 0, 0}, 0},
		{false, []complex128{0, 0, 1, 0}, 0},
		{true, []complex128{0, 0, 1, 0}, 1},
		{false, []complex128{0, 0, 0, 1}, 1},
		{false, []complex128{0, 0, 0, 1}, 1},
		{false, []complex128{0, 0, 0, 1i}, 1},
		{false, []complex128{0, 0, 0, 1i}, 1},
		{true, []complex128{0, 1i, 0, 0}, 1},
		{false, []complex128{0, 0, 0, -1}, 1},
		{true, []complex128{0, 0, 0, -1}, 1},
	} {
		used, e := m.Step(0.5)
		if used != w.used || e != api.OK || !sameState(m.State(), w.state) || m.Bits()[2] != w.bit || m.At() != i+1 {
			t.Errorf("step %d: %v, %d, state %v, bits %v", i, used, e, m.State(), m.Bits())
		}
	}
	if l := m.Log(); !sameLog(l, []api.Outcome{{Op: 2, Qubit: 1, Bit: 2, Value: 1, One: 1}, {Op: 7, Qubit: 1, Bit: -1, Value: 1, One: 1}, {Op: 9, Qubit: 0, Bit: 2, Value: 1, One: 1}}) {
		t.Error("the log:", l)
	}
}

// P12.2: gates, done or not, and barriers take whatever number there is; measurements and resets refuse those that Choose does, though one value alone is possible.
func TestStepNumbers(t *testing.T) {
	for _, u := range refusedNumbers() {
		for _, op := range []api.Op{do(api.GateX, 0), when(0, 1, do(api.GateX, 0)), when(0, 0, do(api.GateX, 0)), barrier(0)} {
			if used, e := machine(t, of(1, 1, op)).Step(u); used || e != api.OK {
				t.Errorf("kind %d with %v: %v, %d", op.Kind, u, used, e)
			}
		}
		for _, op := range []api.Op{measure(0, 0), reset(0)} {
			m, c := machine(t, of(1, 1, op)), of(1, 1, op)
			if used, e := m.Step(u); used || e != api.ErrRun {
				t.Errorf("kind %d with %v: %v, %d", op.Kind, u, used, e)
			}
			wantLike(t, "refused", m, slowNew(c))
			if used, e := m.Step(0); !used || e != api.OK {
				t.Error("once more:", used, e)
			}
		}
	}
}

// P12.2: weights that Choose refuses: none, infinite ones, sums that overflow, NaN. Nothing is done then.
func TestStepWeights(t *testing.T) {
	for _, s := range [][]complex128{{0, 0}, {complex(minus0, 0), 0}, {1e-200, 1e-200i}, {complex(inf, 0), 1}, {0, complex(0, -inf)}, {complex(nan, 0), 0}, {1, complex(1, nan)}, {1e200, 0}, {0x1p511 + 0x1p511i, 0x1p511 + 0x1p511i}} {
		for _, op := range []api.Op{measure(0, 0), reset(0)} {
			c := of(1, 1, op, do(api.GateX, 0))
			m := from(t, c, s, []int{1})
			for range 2 {
				if used, e := m.Step(0.5); used || e != api.ErrRun {
					t.Errorf("%v: %v, %d", s, used, e)
				}
				wantLike(t, "refused", m, slowFrom(c, s, []int{1}))
			}
		}
	}
}

// P12.2: amplitudes that stay, stay to the bit; a reset brings them to 0.
func TestStepKeepsAmplitudes(t *testing.T) {
	s := []complex128{complex(minus0, 2), complex(3, minus0), complex(4, -5), complex(-0.1, 0.1)}
	for u, w := range map[float64][2][]complex128{
		0:     {{0, s[1], 0, s[3]}, {s[1], 0, s[3], 0}},
		below: {{s[0], 0, s[2], 0}, {s[0], 0, s[2], 0}},
	} {
		m := from(t, of(2, 1, measure(0, 0)), s, []int{0})
		m.Step(u)
		k := from(t, of(2, 1, reset(0)), s, []int{1})
		k.Step(u)
		if !sameState(m.State(), w[0]) || !sameState(k.State(), w[1]) || k.Bits()[0] != 1 {
			t.Error(u, m.State(), k.State(), k.Bits())
		}
	}
}
