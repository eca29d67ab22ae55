package rewrite_test

import (
	"math/rand"
	"slices"
	"testing"

	"phasor/api"
	"phasor/circuit"
	"phasor/gate"
	"phasor/rewrite"
)

// sums is a circuit at chance that Linear takes.
func sums(chance *rand.Rand, qubits, bits, many int) api.Circuit {
	c := of(qubits, bits)
	for range many {
		mixed := chance.Perm(qubits)
		switch draw := chance.Intn(10); {
		case draw == 0 || qubits == 1:
			c.Ops = append(c.Ops, barrier(mixed[:1+chance.Intn(qubits)]...))
		case draw == 1:
			c.Ops = append(c.Ops, do(api.GateI, mixed[0]))
		case draw < 4:
			c.Ops = append(c.Ops, do(api.GateSwap, mixed[:2]...))
		default:
			c.Ops = append(c.Ops, do(api.GateCX, mixed[:2]...))
		}
	}
	return c
}

// linear is what Linear answers that must not refuse.
func linear(t *testing.T, c api.Circuit) []uint64 {
	t.Helper()
	ahead := deep(c)
	l, e := rewrite.Linear(c)
	if e != api.OK || len(l) != c.Qubits {
		t.Fatalf("Linear of %v: %v %d", c, l, e)
	}
	if !sameCircuit(c, ahead) {
		t.Fatal("the circuit was changed")
	}
	return l
}

// synth is what Synth answers that must not refuse.
func synth(t *testing.T, rows []uint64) api.Circuit {
	t.Helper()
	ahead := slices.Clone(rows)
	c, e := rewrite.Synth(rows)
	if e != api.OK {
		t.Fatalf("Synth of %v: %d", rows, e)
	}
	if !slices.Equal(rows, ahead) {
		t.Fatal("the rows were changed")
	}
	if at, e := circuit.Check(c); e != api.OK || c.Qubits != len(rows) || c.Bits != 0 {
		t.Fatalf("%v: what comes may not be at %d: %v", rows, at, c)
	}
	return c
}

// P18.9: Linear by hand.
func TestLinear(t *testing.T) {
	for _, w := range []struct {
		text   string
		wanted []uint64
	}{
		{"", []uint64{1, 2, 4, 8, 16}},
		{"id 3; barrier 0 4; id 0", []uint64{1, 2, 4, 8, 16}},
		{"cx 0 1", []uint64{1, 3, 4, 8, 16}},
		{"cx 1 0", []uint64{3, 2, 4, 8, 16}},
		{"cx 0 1; cx 1 2", []uint64{1, 3, 7, 8, 16}},
		{"cx 1 2; cx 0 1", []uint64{1, 3, 6, 8, 16}},
		{"cx 0 1; cx 0 1", []uint64{1, 2, 4, 8, 16}},
		{"swap 0 4", []uint64{16, 2, 4, 8, 1}},
		{"swap 0 1; swap 1 2; barrier 1; cx 0 4", []uint64{2, 4, 1, 8, 18}},
		{"cx 0 1; cx 1 0; cx 0 1", []uint64{2, 1, 4, 8, 16}},
	} {
		if l := linear(t, text(t, w.text)); !slices.Equal(l, w.wanted) {
			t.Errorf("%s: %v, not %v", w.text, l, w.wanted)
		}
	}
	if l := linear(t, of(0, 3)); len(l) != 0 {
		t.Error(l)
	}
	l := linear(t, of(64, 0, do(api.GateCX, 63, 0), do(api.GateSwap, 63, 62)))
	if l[0] != 1|1<<63 || l[62] != 1<<63 || l[63] != 1<<62 || l[1] != 2 {
		t.Errorf("%x", l)
	}
}

// P18.9: what Linear does not take, wherever it stands.
func TestLinearRefuses(t *testing.T) {
	refuses := func(c api.Circuit, wanted api.Errno) {
		t.Helper()
		if l, e := rewrite.Linear(c); len(l) != 0 || e != wanted {
			t.Errorf("%v: %v %d, not %d", c, l, e, wanted)
		}
	}
	for _, c := range wrongCircuits() {
		refuses(c, api.ErrCircuit)
	}
	for _, k := range gate.Kinds() {
		op := do(k, []int{0, 1, 2}[:gate.Arity(k)]...)
		if k != api.GateI && k != api.GateCX && k != api.GateSwap {
			refuses(of(3, 1, op), api.ErrRewrite)
			refuses(of(3, 1, do(api.GateCX, 0, 1), barrier(0), op), api.ErrRewrite)
			refuses(of(3, 1, op, do(api.GateSwap, 0, 1)), api.ErrRewrite)
		}
		refuses(of(3, 1, do(api.GateCX, 0, 1), when(0, 1, op)), api.ErrRewrite)
		refuses(of(3, 1, when(0, 0, op)), api.ErrRewrite)
	}
	refuses(of(3, 1, measure(0, 0)), api.ErrRewrite)
	refuses(of(3, 1, do(api.GateCX, 0, 1), reset(2)), api.ErrRewrite)
	refuses(of(1, 0, behind(times(4095, do(api.GateI, 0)), []api.Op{do(api.GateX, 0)})...), api.ErrRewrite)
}

// P18.9: Synth by hand.
func TestSynth(t *testing.T) {
	for _, w := range []struct {
		rows   []uint64
		wanted string
	}{
		{nil, ""},
		{[]uint64{}, ""},
		{[]uint64{1}, ""},
		{[]uint64{1, 2, 4, 8}, ""},
		{[]uint64{1, 3}, "cx 0 1"},
		{[]uint64{3, 2}, "cx 1 0"},
		{[]uint64{3, 1}, "cx 1 0; cx 0 1"},
		{[]uint64{2, 3}, "cx 0 1; cx 1 0"},
		{[]uint64{2, 1}, "cx 1 0; cx 0 1; cx 1 0"},
		{[]uint64{1, 3, 5}, "cx 0 2; cx 0 1"},
		// The least row below that has the bit is added, not the last one.
		{[]uint64{4, 3, 1}, "cx 2 0; cx 1 2; cx 1 0; cx 2 1; cx 0 2; cx 0 1; cx 1 0"},
	} {
		if c := synth(t, w.rows); !sameCircuit(c, of(len(w.rows), 0, ops(t, w.wanted)...)) {
			t.Errorf("%v: %v", w.rows, c)
		}
	}
}

// P18.9: what Synth does not take.
func TestSynthRefuses(t *testing.T) {
	unit := func(n int) []uint64 {
		l := make([]uint64, n)
		for q := range l {
			l[q] = 1 << q
		}
		return l
	}
	for _, rows := range [][]uint64{
		{0}, {2}, {3}, {1 << 63}, {1, 1}, {3, 3}, {0, 1}, {1, 0}, {1, 4}, {1, 6}, {5, 2}, {1, 2, 3}, {1, 2, 8}, {3, 5, 6}, {1, 2, 4 | 1<<63},
		unit(65), make([]uint64, 65), make([]uint64, 64), make([]uint64, 1000),
		append(unit(62), 0), append(unit(62), 1<<62|1<<63), append(unit(63), 1<<62), append(unit(63), 1<<62-1),
	} {
		ahead := slices.Clone(rows)
		c, e := rewrite.Synth(rows)
		if e != api.ErrArg || !sameCircuit(c, api.Circuit{}) {
			t.Errorf("%v: %v %d", rows, c, e)
		}
		if !slices.Equal(rows, ahead) {
			t.Errorf("%v were changed", ahead)
		}
	}
	for _, n := range []int{62, 63, 64} {
		if c := synth(t, unit(n)); len(c.Ops) != 0 {
			t.Errorf("%d: %v", n, c)
		}
	}
}

// P18.9: all small rows, and rows at chance, against the slow way.
func TestSynthAtChance(t *testing.T) {
	try := func(rows []uint64) bool {
		wanted, through := slowSynth(rows)
		c, e := rewrite.Synth(rows)
		if through != (e == api.OK) || !sameCircuit(c, wanted) || !through && e != api.ErrArg {
			t.Fatalf("%v: %v %d, not %v", rows, c, e, wanted)
		}
		return through
	}
	through := 0
	for code := range uint64(1 << 9) {
		if try([]uint64{code & 7, code >> 3 & 7, code >> 6}) {
			through++
		}
	}
	if through != 168 {
		t.Error("so many matrices of 3 rows have an inverse:", through)
	}
	chance := rand.New(rand.NewSource(1811))
	for range 150 {
		rows := make([]uint64, chance.Intn(65))
		for q := range rows {
			rows[q] = chance.Uint64() >> (64 - len(rows))
		}
		try(rows)
	}
}

// P18.6, P18.9: Linear and Synth undo each other, and Synth of Linear does what the circuit does.
func TestLinearAndSynth(t *testing.T) {
	chance := rand.New(rand.NewSource(1812))
	for i := range 600 {
		n := 1 + chance.Intn(8)
		if i%10 == 0 {
			n = 1 + chance.Intn(64)
		}
		c := sums(chance, n, chance.Intn(3), chance.Intn(200))
		rows := linear(t, c)
		if !slices.Equal(rows, slowLinear(t, c)) {
			t.Fatalf("%v: %v", c, rows)
		}
		d := synth(t, rows)
		if !slices.Equal(linear(t, d), rows) {
			t.Fatalf("%v: %v", rows, d)
		}
		if n <= 8 {
			s := drawnState(t, chance, n, chance.Intn(25))
			if !same(applied(t, s, c), applied(t, s, d)) {
				t.Fatalf("%v: %v", c, d)
			}
		}
	}
	c := sums(chance, 64, 0, 4096)
	if rows := linear(t, c); !slices.Equal(linear(t, synth(t, rows)), rows) {
		t.Error("the longest")
	}
}

// P18.9: as many gates as there may be: rows that need one for each column and each other row.
func TestLongSynth(t *testing.T) {
	// Made backwards: a column at a time, all rows get the bit, and then the column's own row loses it by the next one.
	rows := make([]uint64, 64)
	for q := range rows {
		rows[q] = 1 << q
	}
	for c := 63; c >= 0; c-- {
		for r := range rows {
			if r != c {
				rows[r] ^= rows[c]
			}
		}
		if c < 63 {
			rows[c] ^= rows[c+1]
		}
	}
	d := synth(t, rows)
	if !slices.Equal(linear(t, d), rows) {
		t.Error("another matrix")
	}
	if wanted, through := slowSynth(rows); !through || !sameCircuit(d, wanted) || len(d.Ops) < 4000 {
		t.Error("another circuit:", len(d.Ops))
	}
}

// R3: rows and circuits that are answered are new memory.
func TestLinearIsNewMemory(t *testing.T) {
	c := of(3, 0, ops(t, "cx 0 1; swap 1 2; cx 2 0")...)
	first := linear(t, c)
	kept := slices.Clone(first)
	clear(linear(t, c))
	if !slices.Equal(first, kept) || !slices.Equal(linear(t, c), kept) {
		t.Error("rows are shared")
	}
	f := call{"Synth", func(api.Circuit) (api.Circuit, api.Errno) { return rewrite.Synth(first) }}
	f.wantOwn(t, of(3, 0))
	if !slices.Equal(first, kept) {
		t.Error("the rows were changed")
	}
}
