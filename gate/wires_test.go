package gate_test

import (
	"math"
	"math/rand"
	"slices"
	"testing"

	"phasor/api"
	"phasor/gate"
)

// P6.7: all lists of up to four numbers from -1 to 4, of all kinds and of none.
func TestCheck(t *testing.T) {
	each(4, -1, 4, func(qubits []int) {
		for k := api.GateKind(-1); k < 23; k++ {
			for n := -1; n < 5; n++ {
				wanted := api.OK
				switch {
				case k < 1 || k > 20:
					wanted = api.ErrGate
				case len(qubits) != lineOf(k).qubits || wrong(qubits, n):
					wanted = api.ErrWire
				}
				if e := gate.Check(k, qubits, n); e != wanted {
					t.Errorf("%d %v of %d: %d, not %d", k, qubits, n, e, wanted)
				}
			}
		}
	})
}

// each hands on every list of up to so many numbers.
func each(most, least, below int, do func([]int)) {
	var longer func(l []int)
	longer = func(l []int) {
		do(l)
		if len(l) == most {
			return
		}
		for q := least; q < below; q++ {
			longer(append(slices.Clone(l), q))
		}
	}
	longer(nil)
}

// wrong tells whether a number is not from 0 to below n, or stands there twice.
func wrong(qubits []int, n int) bool {
	times := map[int]int{}
	for _, q := range qubits {
		times[q]++
		if q < 0 || q >= n || times[q] > 1 {
			return true
		}
	}
	return false
}

// P6.7: numbers as far off as there are; no kind comes ahead of wrong qubits.
func TestCheckFarOff(t *testing.T) {
	for _, c := range []struct {
		k      api.GateKind
		qubits []int
		n      int
		wanted api.Errno
	}{
		{api.GateX, []int{math.MaxInt}, math.MaxInt, api.ErrWire},
		{api.GateX, []int{math.MaxInt - 1}, math.MaxInt, api.OK},
		{api.GateX, []int{0}, math.MinInt, api.ErrWire},
		{api.GateX, []int{math.MinInt}, math.MaxInt, api.ErrWire},
		{api.GateX, []int{math.MinInt}, math.MinInt, api.ErrWire},
		{api.GateX, nil, 1, api.ErrWire},
		{api.GateX, make([]int, 1<<16), 1, api.ErrWire},
		{api.GateCSw, []int{63, 0, 62}, 64, api.OK},
		{api.GateCSw, []int{63, 0, 64}, 64, api.ErrWire},
		{api.GateCSw, []int{1, 0, 1}, 64, api.ErrWire},
		{0, nil, 0, api.ErrGate},
		{21, []int{0, 0}, 1, api.ErrGate},
		{math.MaxInt, []int{-1}, 1, api.ErrGate},
	} {
		if e := gate.Check(c.k, c.qubits, c.n); e != c.wanted {
			t.Errorf("%d %v of %d: %d, not %d", c.k, c.qubits[:min(len(c.qubits), 4)], c.n, e, c.wanted)
		}
	}
}

// P6.8: all pairs of kinds with all ways to have qubits in common, held against matrices of whole numbers on all qubits; under other numbers for the qubits the answer is the same.
func TestCommute(t *testing.T) {
	chance := rand.New(rand.NewSource(62))
	yes, no := 0, 0
	for _, a := range allKinds() {
		for _, b := range allKinds() {
			placings(lineOf(a).qubits, lineOf(b).qubits, func(aq, bq []int, n int) {
				one := squareOf(lineOf(a).entries()).onto(aq, n)
				other := squareOf(lineOf(b).entries()).onto(bq, n)
				wanted := one.times(other).is(other.times(one))
				wantCommute(t, a, aq, b, bq, wanted)
				numbers := farNumbers(chance, n)
				wantCommute(t, a, under(aq, numbers), b, under(bq, numbers), wanted)
				if wanted {
					yes++
				} else {
					no++
				}
			})
		}
	}
	if yes < 500 || no < 500 {
		t.Errorf("%d commute, %d do not", yes, no)
	}
}

func wantCommute(t *testing.T, a api.GateKind, aq []int, b api.GateKind, bq []int, wanted bool) {
	t.Helper()
	kept, other := slices.Clone(aq), slices.Clone(bq)
	if is, e := gate.Commute(a, aq, b, bq); is != wanted || e != api.OK {
		t.Errorf("%s %v, %s %v: %t %d, not %t", lineOf(a).name, aq, lineOf(b).name, bq, is, e, wanted)
	}
	if !slices.Equal(aq, kept) || !slices.Equal(bq, other) {
		t.Errorf("%v %v have become %v %v", kept, other, aq, bq)
	}
}

// placings hands on the ways in which a second gate's qubits may be some of the first's, which are 0 and up: what it has of its own comes behind these, rising.
func placings(first, second int, do func(aq, bq []int, n int)) {
	aq := make([]int, first)
	for i := range aq {
		aq[i] = i
	}
	each(second, -1, first, func(l []int) {
		if len(l) != second {
			return
		}
		bq, n := slices.Clone(l), first
		for t, q := range bq {
			if q < 0 {
				bq[t] = n
				n++
			}
		}
		if !wrong(bq, n) {
			do(aq, bq, n)
		}
	})
}

// farNumbers are n numbers of any size, no two alike, in any order.
func farNumbers(chance *rand.Rand, n int) []int {
	l := []int{0, 1, 63, 64, 1000000, 1 << 32, math.MaxInt - 1, math.MaxInt}
	chance.Shuffle(len(l), func(i, j int) { l[i], l[j] = l[j], l[i] })
	return l[:n]
}

func under(qubits, numbers []int) []int {
	l := make([]int, len(qubits))
	for i, q := range qubits {
		l[i] = numbers[q]
	}
	return l
}

// P6.8: pairs by hand: which qubit is which counts.
func TestCommuteByHand(t *testing.T) {
	for _, c := range []struct {
		a      string
		aq     []int
		b      string
		bq     []int
		wanted bool
	}{
		{"x", []int{0}, "z", []int{0}, false}, {"x", []int{0}, "z", []int{1}, true}, {"x", []int{0}, "sx", []int{0}, true}, {"id", []int{3}, "sy", []int{3}, true},
		{"cx", []int{0, 1}, "cx", []int{1, 0}, false}, {"cx", []int{0, 1}, "cx", []int{0, 2}, true}, {"cx", []int{0, 1}, "cx", []int{2, 1}, true}, {"cx", []int{0, 1}, "cx", []int{1, 2}, false},
		{"z", []int{0}, "cx", []int{0, 1}, true}, {"z", []int{1}, "cx", []int{0, 1}, false}, {"y", []int{1}, "cy", []int{0, 1}, true}, {"y", []int{0}, "cy", []int{0, 1}, false},
		{"swap", []int{0, 1}, "swap", []int{1, 0}, true}, {"swap", []int{0, 1}, "hh", []int{1, 0}, true}, {"swap", []int{0, 1}, "swap", []int{1, 2}, false}, {"swap", []int{0, 1}, "iswap", []int{0, 1}, true},
		{"cz", []int{0, 1}, "iswap", []int{1, 0}, true}, {"ccx", []int{0, 1, 2}, "swap", []int{0, 1}, true}, {"ccx", []int{0, 1, 2}, "swap", []int{1, 2}, false}, {"cswap", []int{0, 1, 2}, "swap", []int{1, 2}, true}, {"cswap", []int{0, 1, 2}, "swap", []int{0, 1}, false},
		{"ccx", []int{0, 1, 2}, "ccx", []int{1, 0, 2}, true}, {"ccx", []int{0, 1, 2}, "ccx", []int{0, 2, 1}, false}, {"ccx", []int{0, 1, 2}, "ccx", []int{3, 4, 2}, true}, {"hh", []int{0, 1}, "hh", []int{1, 2}, true}, {"hh", []int{0, 1}, "cz", []int{0, 1}, false},
	} {
		a, _ := gate.Of(c.a)
		b, _ := gate.Of(c.b)
		wantCommute(t, a, c.aq, b, c.bq, c.wanted)
		wantCommute(t, b, c.bq, a, c.aq, c.wanted)
	}
}

// P6.8: no kind comes first, on whichever side; then qubits that either gate may not have.
func TestCommuteRefuses(t *testing.T) {
	refused := func(a api.GateKind, aq []int, b api.GateKind, bq []int, wanted api.Errno) {
		t.Helper()
		if is, e := gate.Commute(a, aq, b, bq); is || e != wanted {
			t.Errorf("%d %v, %d %v: %t %d, not %d", a, aq, b, bq, is, e, wanted)
		}
		if is, e := gate.Commute(b, bq, a, aq); is || e != wanted {
			t.Errorf("%d %v, %d %v: %t %d, not %d", b, bq, a, aq, is, e, wanted)
		}
	}
	for _, none := range noKinds() {
		refused(none, nil, none, nil, api.ErrGate)
		refused(none, nil, api.GateX, []int{0}, api.ErrGate)
		refused(none, []int{0}, api.GateX, []int{-1}, api.ErrGate)
		refused(none, []int{0, 0}, api.GateCX, nil, api.ErrGate)
	}
	for _, k := range allKinds() {
		n := lineOf(k).qubits
		full := []int{5, 6, 7, 8}
		lists := [][]int{nil, full[:n-1], full[:n+1]}
		for at := range n {
			below := slices.Clone(full[:n])
			below[at] = -1
			far := slices.Clone(full[:n])
			far[at] = math.MinInt
			lists = append(lists, below, far)
			for other := range at {
				twice := slices.Clone(full[:n])
				twice[other] = twice[at]
				lists = append(lists, twice)
			}
		}
		for _, l := range lists {
			refused(k, l, api.GateX, []int{0}, api.ErrWire)
			refused(k, l, api.GateCCZ, []int{5, 0, 7}, api.ErrWire)
			refused(k, l, k, l, api.ErrWire)
		}
	}
}
