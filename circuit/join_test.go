package circuit_test

import (
	"math"
	"math/rand"
	"slices"
	"testing"

	"phasor/api"
	"phasor/circuit"
)

// P8.5: the operations of both, and the greater counts.
func TestAppend(t *testing.T) {
	chance := rand.New(rand.NewSource(807))
	for range 1000 {
		a, b := someCircuit(chance), someCircuit(chance)
		kept, other := deep(a), deep(b)
		c, e := circuit.Append(a, b)
		wantCircuit(t, "Append", c, of(max(a.Qubits, b.Qubits), max(a.Bits, b.Bits), slices.Concat(a.Ops, b.Ops)...))
		if at, check := circuit.Check(c); e != api.OK || check != api.OK {
			t.Errorf("Append: %d; Check: %d %d", e, at, check)
		}
		spoil(c)
		wantCircuit(t, "the first", a, kept)
		wantCircuit(t, "the second", b, other)
	}
	c, e := circuit.Append(of(2, 5), of(7, 1))
	wantCircuit(t, "counts", c, of(7, 5))
	if e != api.OK {
		t.Error(e)
	}
	one := of(2, 1, do(api.GateCX, 0, 1))
	c, _ = circuit.Append(one, one)
	c.Ops[0].Qubits[0] = 7
	if c.Ops[1].Qubits[0] != 0 || one.Ops[0].Qubits[0] != 0 {
		t.Error("one list in two places")
	}
}

// P8.5: how many operations there may be together, and what may not be on either side.
func TestAppendRefuses(t *testing.T) {
	x := do(api.GateX, 0)
	for _, n := range []int{0, 1, 2000, 4095, 4096} {
		long, rest := of(1, 0, repeated(n, x)...), of(1, 0, repeated(4096-n, x)...)
		if c, e := circuit.Append(long, rest); len(c.Ops) != 4096 || e != api.OK {
			t.Errorf("%d and %d: %d", n, 4096-n, e)
		}
		more := of(1, 0, repeated(4097-n, x)...)
		c, e := circuit.Append(long, more)
		wantNone(t, "too many", c)
		if e != api.ErrCircuit {
			t.Errorf("%d and %d: %d", n, 4097-n, e)
		}
	}
	for _, wrong := range wrongs() {
		for _, other := range []api.Circuit{{}, of(3, 2, x), wrong} {
			c, e := circuit.Append(wrong, other)
			wantNone(t, "the first", c)
			d, f := circuit.Append(other, wrong)
			wantNone(t, "the second", d)
			if e != api.ErrCircuit || f != api.ErrCircuit {
				t.Errorf("%.200s: %d %d", tell(wrong), e, f)
			}
		}
	}
	c, e := circuit.Append(of(1, 0), of(1, 0, do(api.GateX, 1)))
	wantNone(t, "a qubit that the other one would have", c)
	c, f := circuit.Append(of(2, 0), of(1, 0, do(api.GateX, 1)))
	wantNone(t, "a qubit that the first one has", c)
	if e != api.ErrCircuit || f != api.ErrCircuit {
		t.Error(e, f)
	}
}

// moved is what Embed promises, number by number.
func moved(c api.Circuit, qubits, bits []int, n, m int) api.Circuit {
	d := deep(c)
	d.Qubits, d.Bits = n, m
	for i, op := range c.Ops {
		for k := range op.Qubits {
			d.Ops[i].Qubits[k] = qubits[op.Qubits[k]]
		}
		if op.Kind == api.OpMeasure {
			d.Ops[i].Bit = bits[op.Bit]
		}
		if op.If >= 0 {
			d.Ops[i].If = bits[op.If]
		}
	}
	return d
}

// P8.5: any circuits onto any qubits and bits.
func TestEmbed(t *testing.T) {
	chance := rand.New(rand.NewSource(808))
	for range 1000 {
		c := someCircuit(chance)
		n, m := c.Qubits+chance.Intn(65-c.Qubits), c.Bits+chance.Intn(65-c.Bits)
		qubits, bits := chance.Perm(n)[:c.Qubits], chance.Perm(m)[:c.Bits]
		kept, q, b := deep(c), slices.Clone(qubits), slices.Clone(bits)
		d, e := circuit.Embed(c, qubits, bits, n, m)
		wantCircuit(t, "Embed", d, moved(c, qubits, bits, n, m))
		if at, check := circuit.Check(d); e != api.OK || check != api.OK {
			t.Errorf("Embed: %d; Check: %d %d", e, at, check)
		}
		spoil(d)
		wantCircuit(t, "what was handed in", c, kept)
		if !slices.Equal(qubits, q) || !slices.Equal(bits, b) {
			t.Error("the numbers")
		}
	}
}

// P8.5: by hand: a Bit that is no bit's number stays 0, and so does an If that asks nothing.
func TestEmbedByHand(t *testing.T) {
	c := of(3, 2, do(api.GateCCX, 0, 2, 1), reset(1), barrier(2, 0), measure(2, 0), measure(0, 1), when(1, 0, do(api.GateX, 0)), when(0, 1, do(api.GateSwap, 1, 0)))
	d, e := circuit.Embed(c, []int{5, 0, 3}, []int{7, 4}, 6, 8)
	wantCircuit(t, "Embed", d, of(6, 8, do(api.GateCCX, 5, 3, 0), reset(0), barrier(3, 5), measure(3, 7), measure(5, 4), when(4, 0, do(api.GateX, 5)), when(7, 1, do(api.GateSwap, 0, 5))))
	if e != api.OK {
		t.Error(e)
	}
	d, e = circuit.Embed(api.Circuit{}, nil, []int{}, 64, 64)
	wantCircuit(t, "nothing", d, of(64, 64))
	if e != api.OK {
		t.Error(e)
	}
	if d, e = circuit.Embed(api.Circuit{}, nil, nil, 0, 0); e != api.OK {
		t.Error(e)
	}
	wantNone(t, "nothing onto nothing", d)
}

// P8.5: what does not fit; a circuit that may not be comes ahead of it.
func TestEmbedRefuses(t *testing.T) {
	c := of(2, 1, do(api.GateCX, 0, 1), measure(0, 0))
	for _, bad := range []struct {
		qubits, bits []int
		n, m         int
	}{
		{[]int{0}, []int{0}, 4, 4}, {[]int{0, 1, 2}, []int{0}, 4, 4}, {nil, []int{0}, 4, 4}, {[]int{0, 1}, nil, 4, 4}, {[]int{0, 1}, []int{0, 1}, 4, 4},
		{[]int{0, 0}, []int{0}, 4, 4}, {[]int{0, 4}, []int{0}, 4, 4}, {[]int{-1, 0}, []int{0}, 4, 4}, {[]int{1, math.MaxInt}, []int{0}, 4, 4}, {[]int{1, math.MinInt}, []int{0}, 4, 4},
		{[]int{0, 1}, []int{4}, 4, 4}, {[]int{0, 1}, []int{-1}, 4, 4}, {[]int{0, 1}, []int{math.MinInt}, 4, 4},
		{[]int{0, 1}, []int{0}, 65, 4}, {[]int{0, 1}, []int{0}, 4, 65}, {[]int{0, 1}, []int{0}, -1, 4}, {[]int{0, 1}, []int{0}, 4, -1}, {[]int{0, 1}, []int{0}, math.MaxInt, 4}, {[]int{0, 1}, []int{0}, 4, math.MinInt},
		{[]int{0, 1}, []int{0}, 1, 4}, {[]int{0, 1}, []int{0}, 4, 0}, {[]int{0, 1}, []int{0}, 0, 0},
	} {
		d, e := circuit.Embed(c, bad.qubits, bad.bits, bad.n, bad.m)
		wantNone(t, "Embed", d)
		if e != api.ErrArg {
			t.Errorf("%v: %d", bad, e)
		}
		for _, wrong := range wrongs() {
			d, e := circuit.Embed(wrong, bad.qubits, bad.bits, bad.n, bad.m)
			wantNone(t, "Embed of what may not be", d)
			if e != api.ErrCircuit {
				t.Errorf("%.200s: %d", tell(wrong), e)
			}
		}
	}
	for _, n := range []int{-1, 65, math.MaxInt, math.MinInt} {
		_, e := circuit.Embed(api.Circuit{}, nil, nil, n, 0)
		_, f := circuit.Embed(api.Circuit{}, nil, nil, 0, n)
		if e != api.ErrArg || f != api.ErrArg {
			t.Errorf("%d: %d %d", n, e, f)
		}
	}
	d, e := circuit.Embed(of(0, 2), nil, []int{1, 1}, 3, 3)
	wantNone(t, "a bit twice", d)
	if e != api.ErrArg {
		t.Error(e)
	}
}

// P8.7: what is used is kept, rising, and numbered anew; and Embed leads back.
func TestCompact(t *testing.T) {
	chance := rand.New(rand.NewSource(809))
	for range 1500 {
		c := someCircuit(chance)
		c.Ops = c.Ops[:min(len(c.Ops), chance.Intn(8))]
		kept := deep(c)
		d, qubits, bits, e := circuit.Compact(c)
		var hasQubit, hasBit [64]bool
		for _, op := range c.Ops {
			for _, q := range op.Qubits {
				hasQubit[q] = true
			}
			if op.Kind == api.OpMeasure {
				hasBit[op.Bit] = true
			}
			if op.If >= 0 {
				hasBit[op.If] = true
			}
		}
		if !slices.Equal(qubits, places(hasQubit)) || !slices.Equal(bits, places(hasBit)) || e != api.OK {
			t.Errorf("%s: %v %v %d", tell(c), qubits, bits, e)
		}
		if d.Qubits != len(qubits) || d.Bits != len(bits) {
			t.Errorf("%s: %s", tell(c), tell(d))
		}
		back, e := circuit.Embed(d, qubits, bits, c.Qubits, c.Bits)
		wantCircuit(t, "Embed of Compact", back, c)
		if e != api.OK || !circuit.Same(back, c) {
			t.Error(e)
		}
		wantCircuit(t, "once more", mustCompact(t, d), d)
		spoil(d)
		wantCircuit(t, "what was handed in", c, kept)
	}
}

func places(has [64]bool) []int {
	var l []int
	for i, is := range has {
		if is {
			l = append(l, i)
		}
	}
	return l
}

func mustCompact(t *testing.T, c api.Circuit) api.Circuit {
	t.Helper()
	d, _, _, e := circuit.Compact(c)
	if e != api.OK {
		t.Error(e)
	}
	return d
}

// P8.7: by hand: resets and barriers have qubits, a condition has its bit, and what gates have in Bit is none.
func TestCompactByHand(t *testing.T) {
	c, qubits, bits, e := circuit.Compact(of(64, 64, barrier(63, 5), reset(9), when(40, 1, do(api.GateCX, 5, 63)), measure(9, 63)))
	wantCircuit(t, "Compact", c, of(3, 2, barrier(2, 0), reset(1), when(0, 1, do(api.GateCX, 0, 2)), measure(1, 1)))
	if !slices.Equal(qubits, []int{5, 9, 63}) || !slices.Equal(bits, []int{40, 63}) || e != api.OK {
		t.Error(qubits, bits, e)
	}
	c, qubits, bits, e = circuit.Compact(of(64, 64))
	wantNone(t, "no operations", c)
	if len(qubits) != 0 || len(bits) != 0 || e != api.OK {
		t.Error(qubits, bits, e)
	}
	c, qubits, bits, e = circuit.Compact(of(2, 5, do(api.GateX, 1)))
	wantCircuit(t, "no bits", c, of(1, 0, do(api.GateX, 0)))
	if !slices.Equal(qubits, []int{1}) || len(bits) != 0 || e != api.OK {
		t.Error(qubits, bits, e)
	}
	for _, wrong := range wrongs() {
		c, qubits, bits, e := circuit.Compact(wrong)
		wantNone(t, "Compact of what may not be", c)
		if len(qubits) != 0 || len(bits) != 0 || e != api.ErrCircuit {
			t.Errorf("%.200s: %v %v %d", tell(wrong), qubits, bits, e)
		}
	}
}
