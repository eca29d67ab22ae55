package expect_test

import (
	"math"
	"math/rand"
	"testing"

	"phasor/api"
	"phasor/expect"
	"phasor/pauli"
)

// P22.3: by hand: X is the low half of a place's bits, Z the high one.
func TestTableByHand(t *testing.T) {
	for _, c := range []struct {
		s      []complex128
		wanted map[int]float64
	}{
		{[]complex128{1}, map[int]float64{0: 1}}, {[]complex128{2 + 1i}, map[int]float64{0: 5}},
		{[]complex128{1, 0}, map[int]float64{0: 1, 2: 1}}, {[]complex128{0, 1}, map[int]float64{0: 1, 2: -1}}, {[]complex128{0.5 + 0.5i, 0.5 + 0.5i}, map[int]float64{0: 1, 1: 1}}, {[]complex128{0.5 + 0.5i, 0.5 - 0.5i}, map[int]float64{0: 1, 3: -1}}, {[]complex128{3, 1}, map[int]float64{0: 10, 1: 6, 2: 8}}, {[]complex128{0, 0}, nil},
		{[]complex128{0.5 + 0.5i, 0.5 + 0.5i, 0, 0}, map[int]float64{0: 1, 1: 1, 8: 1, 9: 1}}, {[]complex128{0.5 + 0.5i, 0, 0.5 + 0.5i, 0}, map[int]float64{0: 1, 2: 1, 4: 1, 6: 1}},
		{[]complex128{0, 0, 0, 0, 1, 0, 0, 0}, map[int]float64{0: 1, 8: 1, 16: 1, 24: 1, 32: -1, 40: -1, 48: -1, 56: -1}},
	} {
		answer := table.answer(t, c.s).floats
		if len(answer) != len(c.s)*len(c.s) {
			t.Fatalf("%v: %d numbers", c.s, len(answer))
		}
		for m, x := range answer {
			if x != c.wanted[m] {
				t.Errorf("%v: at %d %v, not %v", c.s, m, x, c.wanted[m])
			}
		}
	}
}

// P22.3: to the bit, of all sizes and floats of all kinds.
func TestTable(t *testing.T) {
	chance := rand.New(rand.NewSource(2204))
	for n := range api.MaxTable + 1 {
		for range 2 + 40>>n {
			for _, draw := range []func(*rand.Rand) float64{oddFloat, tameFloat} {
				s := amplitudes(chance, n, draw)
				table.want(t, s, nil, told{floats: slowTable(s)})
			}
		}
	}
}

// P22.3: what is no state, and states of too many qubits.
func TestTableRefuses(t *testing.T) {
	for _, s := range noStates() {
		table.refuses(t, "no state", s, nil, api.ErrState)
	}
	for n := range 13 {
		s := make([]complex128, 1<<n, 1<<12)
		if n > 5 {
			table.refuses(t, "too many qubits", s, nil, api.ErrExpect)
		} else if l := table.answer(t, s).floats; len(l) != 1<<(2*n) {
			t.Error(n, len(l))
		}
	}
}

// P22.4: by hand: signs of noughts are taken away, halves are rounded once, Z rises.
func TestRebuildByHand(t *testing.T) {
	for _, c := range []struct {
		table  []float64
		wanted []complex128
	}{
		{[]float64{minus0}, []complex128{0}}, {[]float64{-3}, []complex128{-3}}, {[]float64{inf}, []complex128{complex(inf, 0)}}, {[]float64{nan}, []complex128{complex(nan, 0)}},
		{[]float64{1, 0, 0, 0}, []complex128{0.5, 0, 0, 0.5}}, {[]float64{1, 1, 0, 0}, []complex128{0.5, 0.5, 0.5, 0.5}}, {[]float64{1, 0, 1, 0}, []complex128{1, 0, 0, 0}}, {[]float64{1, 0, -1, 0}, []complex128{0, 0, 0, 1}},
		{[]float64{1, 0, 0, 1}, []complex128{0.5, -0.5i, 0.5i, 0.5}}, {[]float64{1, 0, 0, -1}, []complex128{0.5, 0.5i, -0.5i, 0.5}}, {[]float64{0, 2, 0, 4}, []complex128{0, 1 - 2i, 1 + 2i, 0}},
		{[]float64{minus0, minus0, minus0, minus0}, []complex128{0, 0, 0, 0}}, {[]float64{-tiny, 0, 0, 0}, []complex128{0, 0, 0, 0}}, {[]float64{3 * tiny, 0, 0, 0}, []complex128{2 * tiny, 0, 0, 2 * tiny}}, {[]float64{tiny, 0, tiny, 0}, []complex128{tiny, 0, 0, 0}},
		{[]float64{inf, 0, 0, 0}, []complex128{complex(inf, 0), 0, 0, complex(inf, 0)}}, {[]float64{inf, 0, inf, 0}, []complex128{complex(inf, 0), 0, 0, complex(nan, 0)}}, {[]float64{0, 0, 0, nan}, []complex128{0, complex(0, nan), complex(0, nan), 0}},
		{[]float64{1 << 53, 0, 1, 0}, []complex128{1 << 52, 0, 0, 1<<52 - 0.5}},
		{[]float64{math.MaxFloat64, 0, math.MaxFloat64, 0}, []complex128{complex(inf, 0), 0, 0, 0}},
	} {
		rebuild.want(t, c.table, told{rows: int(math.Sqrt(float64(len(c.table)))), numbers: c.wanted})
	}
	order := make([]float64, 16)
	order[0], order[4], order[8] = 1, 1<<53, -1<<53
	if l := rebuild.answer(t, order).numbers; l[0] != 0 {
		t.Error("not added from the first on:", l[0])
	}
}

// P22.4: each string alone makes its own matrix, halved n times.
func TestRebuildOfStrings(t *testing.T) {
	for n := range api.MaxTable + 1 {
		for m := range 1 << (2 * n) {
			if n == 5 && m%7 != 0 {
				continue
			}
			l := make([]float64, 1<<(2*n))
			l[m] = float64(int(1) << n)
			answer, wanted := rebuild.answer(t, l), stringMatrix(stringOf(m, n))
			if answer.rows != wanted.N {
				t.Fatal(n, answer.rows)
			}
			for i, z := range wanted.E {
				if answer.numbers[i] != z {
					t.Fatalf("%d qubits, string %d, entry %d: %v, not %v", n, m, i, answer.numbers[i], z)
				}
			}
		}
	}
}

// P22.4, P22.7: to the bit, of all sizes and floats of all kinds.
func TestRebuildAndPurity(t *testing.T) {
	chance := rand.New(rand.NewSource(2205))
	for n := range api.MaxTable + 1 {
		for range 2 + 100>>n {
			for _, draw := range []func(*rand.Rand) float64{oddFloat, tameFloat, smallFloat} {
				l := floats(chance, 1<<(2*n), draw)
				rebuild.want(t, l, slowRebuild(l))
				purity.want(t, l, told{x: slowPurity(l)})
			}
		}
	}
}

// smallFloat is among the least ones, whose halves are rounded.
func smallFloat(chance *rand.Rand) float64 { return tiny * float64(chance.Intn(9)-4) }

// P22.4: of whole numbers, layer 13's Compose of the same, halved.
func TestRebuildComposes(t *testing.T) {
	chance := rand.New(rand.NewSource(2206))
	for n := range 4 {
		for range 20 {
			l := floats(chance, 1<<(2*n), func(chance *rand.Rand) float64 { return float64(chance.Intn(2001) - 1000) })
			numbers := make([]complex128, len(l))
			for i, x := range l {
				numbers[i] = complex(x, 0)
			}
			m, _ := pauli.Compose(numbers)
			for i, z := range rebuild.answer(t, l).numbers {
				if z*complex(float64(int(1)<<n), 0) != m.E[i] {
					t.Fatalf("%v: entry %d is %v", l, i, z)
				}
			}
		}
	}
}

// P22.7: by hand: squares are added from the first on, each rounded.
func TestPurityByHand(t *testing.T) {
	for _, c := range []struct {
		table  []float64
		wanted float64
	}{
		{[]float64{1}, 1}, {[]float64{-3}, 9}, {[]float64{minus0}, 0}, {[]float64{nan}, nan}, {[]float64{-inf}, inf}, {[]float64{1e200}, inf}, {[]float64{1e-162}, 0}, {[]float64{2e-162}, tiny},
		{[]float64{1, 0, 0, 0}, 0.5}, {[]float64{1, 0, 1, 0}, 1}, {[]float64{1, 0, 0, -1}, 1}, {[]float64{1, 2, 3, 4}, 15}, {[]float64{2e-162, 0, 0, 0}, 0}, {[]float64{1e200, 0, 0, nan}, nan},
		{[]float64{1 << 27, 1, 1, 1}, 1 << 53}, {[]float64{1, 1, 1, 1 << 27}, 1<<53 + 2},
		{make([]float64, 1024), 0},
	} {
		purity.want(t, c.table, told{x: c.wanted})
	}
}

// P22.4, P22.7: of all lengths, tables have 1, 4, 16, 64, 256 and 1024 numbers, whatever room is behind them.
func TestTablesOfOtherLengths(t *testing.T) {
	room := make([]float64, 70000)
	rows := map[int]int{1: 1, 4: 2, 16: 4, 64: 8, 256: 16, 1024: 32}
	for size := range 5000 {
		if rows[size] == 0 {
			wantNoTable(t, room[:size])
		} else if m := rebuild.answer(t, room[:size]); m.rows != rows[size] || len(m.numbers) != size {
			t.Errorf("%d numbers: %d rows, %d entries", size, m.rows, len(m.numbers))
		}
	}
	for _, size := range []int{1 << 14, 1<<14 + 1, 1 << 16, 65535, 70000} {
		wantNoTable(t, room[:size])
	}
	wantNoTable(t, nil)
	wantNoTable(t, []float64{nan, inf})
}

func wantNoTable(t *testing.T, l []float64) {
	t.Helper()
	rebuild.refuses(t, "no table", l, api.ErrExpect)
	purity.refuses(t, "no table", l, api.ErrExpect)
}

// R3: tables and matrices are new memory.
func TestTablesAreNew(t *testing.T) {
	l, _ := expect.Table(bell())
	clear(l)
	table.want(t, bell(), nil, told{floats: bellTable()})
	wanted := slowRebuild(bellTable())
	m, _ := expect.Rebuild(bellTable())
	clear(m.E)
	rebuild.want(t, bellTable(), wanted)
}
