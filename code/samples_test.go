package code_test

import (
	"math"
	"math/rand"
	"slices"
	"testing"

	"phasor/api"
	"phasor/pauli"
)

const (
	least = math.MinInt
	great = math.MaxInt
	tiny  = math.SmallestNonzeroFloat64
)

var (
	nan    = math.NaN()
	inf    = math.Inf(1)
	minus0 = math.Copysign(0, -1)
)

// names are the codes' names, in the order of the chapter's table.
func names() []string { return []string{"bit", "sign", "five", "steane", "surface", "shor"} }

// noNames are those of no code.
func noNames() []string {
	return []string{"", " ", "none", "Bit", "BIT", "bit ", " bit", "bi", "bits", "b", "sign\x00", "signs", "flip", "phase", "5", "fiv", "Five", "steane7", "Steane", "surface9", "surf", "Shor", "shor ", "\xff", "bit,sign", "bit sign", "биt"}
}

// read is a string of a text.
func read(text string) api.Pauli {
	p, e := pauli.Parse(text)
	if e != api.OK {
		panic(text)
	}
	return p
}

// all are strings of texts.
func all(texts ...string) []api.Pauli {
	var l []api.Pauli
	for _, s := range texts {
		l = append(l, read(s))
	}
	return l
}

// anyString is one of n qubits at chance, with few letters as often as with many.
func anyString(chance *rand.Rand, n int) api.Pauli {
	p := api.Pauli{N: n, X: uint64(chance.Intn(1 << n)), Z: uint64(chance.Intn(1 << n)), Phase: chance.Intn(4)}
	if chance.Intn(2) == 0 {
		few := uint64(1<<chance.Intn(n) | 1<<chance.Intn(n))
		p.X, p.Z = p.X&few, p.Z&few
	}
	return p
}

// wrongStrings are none of n qubits: not right, or of other qubits.
func wrongStrings(n int) []api.Pauli {
	l := []api.Pauli{
		{}, {N: -1}, {N: -n}, {N: 64}, {N: 65}, {N: 128}, {N: 1<<32 + n}, {N: great}, {N: least}, {N: -1, X: 1}, {N: least, X: math.MaxUint64, Phase: least},
		{N: n - 1}, {N: n + 1}, {N: n + 1, X: 1}, {N: n - 1, Z: 1}, {N: 2 * n}, {N: n + 64},
	}
	for _, phase := range []int{-1, -4, 4, 5, 8, least, great} {
		l = append(l, api.Pauli{N: n, Phase: phase}, api.Pauli{N: n, X: 1, Z: 2, Phase: phase})
	}
	for _, q := range []int{n, n + 1, 32, 63} {
		l = append(l, api.Pauli{N: n, X: 1 << q}, api.Pauli{N: n, Z: 1 << q}, api.Pauli{N: n, X: 1 << q, Z: 1 << q, Phase: 2})
	}
	return l
}

// syndromes are all rows of n bits.
func syndromes(n int) [][]int {
	var l [][]int
	for k := range 1 << n {
		bits := make([]int, n)
		for i := range bits {
			bits[i] = k >> i & 1
		}
		l = append(l, bits)
	}
	return l
}

// wrongSyndromes are rows of numbers that are none of n stabilizers.
func wrongSyndromes(n int) [][]int {
	l := [][]int{nil, {}, {0}, {1}, make([]int, 0, n), make([]int, n-1), make([]int, n-1, n), make([]int, n+1), make([]int, 2*n), make([]int, 64), make([]int, 100000)}
	for at := range n {
		for _, wrong := range []int{-1, 2, 3, -2, 256, 257, 1 << 32, 1<<32 + 1, least, great, least + 1} {
			zeros, ones := make([]int, n), slices.Repeat([]int{1}, n)
			zeros[at], ones[at] = wrong, wrong
			l = append(l, zeros, ones)
		}
	}
	return slices.DeleteFunc(l, func(row []int) bool {
		return len(row) == n && !slices.ContainsFunc(row, func(b int) bool { return b != 0 && b != 1 })
	})
}

// noStates are rows that are no state of n qubits.
func noStates(n int) [][]complex128 {
	var l [][]complex128
	for k := range 13 {
		if k != n {
			l = append(l, make([]complex128, 1<<k))
		}
	}
	return append(l,
		nil, []complex128{}, make([]complex128, 0, 1<<n), make([]complex128, 1<<n-1), make([]complex128, 1<<n-1, 1<<n), make([]complex128, 1<<n+1), make([]complex128, 3<<n),
		[]complex128{1, 0, 0}, make([]complex128, 4097), make([]complex128, 8192), make([]complex128, 1<<16))
}

// wrongKinds are no Clifford gates of one qubit.
func wrongKinds() []api.GateKind {
	l := []api.GateKind{0, -1, -5, 21, 22, 64, 128, 256 + 5, 1<<32 + 5, least, great}
	for k := api.GateCX; k <= api.GateCSw; k++ {
		l = append(l, k)
	}
	return l
}

// kinds are the gates of one qubit, of which all are Clifford gates.
func kinds() []api.GateKind {
	return []api.GateKind{api.GateI, api.GateX, api.GateY, api.GateZ, api.GateS, api.GateSdg, api.GateV, api.GateVdg, api.GateW, api.GateWdg}
}

// oddFloat is one as they come: noughts with a sign, infinities and NaN, the least and the greatest ones among them.
func oddFloat(chance *rand.Rand) float64 {
	l := []float64{
		0, minus0, 1, -1, 0.5, -3, 0.1, 1 + 0x1p-30, 1 << 53, -1e16, 1e200, -1e-200,
		tiny, -tiny, 3 * tiny, math.MaxFloat64, -math.MaxFloat64, inf, -inf, nan,
	}
	return l[chance.Intn(len(l))]
}

// tameFloat is a finite one, of which every fourth is a nought, with a sign or without.
func tameFloat(chance *rand.Rand) float64 {
	if chance.Intn(4) == 0 {
		return math.Copysign(0, chance.Float64()-0.5)
	}
	return chance.NormFloat64()
}

// noughtFloat is a nought with a sign or without, and seldom another.
func noughtFloat(chance *rand.Rand) float64 {
	if chance.Intn(12) == 0 {
		return tameFloat(chance)
	}
	return math.Copysign(0, chance.Float64()-0.5)
}

// exactFloat is a multiple of 2^-8 from -1 to 1.
func exactFloat(chance *rand.Rand) float64 { return float64(chance.Intn(513)-256) / 256 }

// draws are the kinds of floats that numbers are made of.
func draws() []func(chance *rand.Rand) float64 {
	return []func(chance *rand.Rand) float64{oddFloat, tameFloat, noughtFloat, exactFloat}
}

func number(chance *rand.Rand, draw func(chance *rand.Rand) float64) complex128 {
	return complex(draw(chance), draw(chance))
}

func numbers(chance *rand.Rand, n int, draw func(chance *rand.Rand) float64) []complex128 {
	l := make([]complex128, n)
	for k := range l {
		l[k] = number(chance, draw)
	}
	return l
}

// exact are two numbers of multiples of 2^-8 from -1 to 1; the first pairs are of the greatest ones and of noughts.
func exact(chance *rand.Rand, turn int) (complex128, complex128) {
	l := []complex128{1, 1i, -1, -1i, 1 + 1i, -1 - 1i, 0x1p-8, -0x1p-8i, 0}
	if turn < len(l) {
		return l[turn], l[chance.Intn(len(l))]
	}
	return number(chance, exactFloat), number(chance, exactFloat)
}

// sameFloat tells whether floats have the same bits, two NaNs counting as the same.
func sameFloat(x, y float64) bool {
	return math.Float64bits(x) == math.Float64bits(y) || x != x && y != y
}

func sameNumber(a, b complex128) bool {
	return sameFloat(real(a), real(b)) && sameFloat(imag(a), imag(b))
}

func sameState(a, b []complex128) bool { return slices.EqualFunc(a, b, sameNumber) }

// struck is what a string makes of a state.
func struck(t *testing.T, p api.Pauli, s []complex128) []complex128 {
	t.Helper()
	moved, e := pauli.Act(p, s)
	if e != api.OK {
		t.Fatal(p, e)
	}
	return moved
}

// product is that of strings.
func product(t *testing.T, l ...api.Pauli) api.Pauli {
	t.Helper()
	p := l[0]
	for _, q := range l[1:] {
		var e api.Errno
		if p, e = pauli.Mul(p, q); e != api.OK {
			t.Fatal(p, q, e)
		}
	}
	return p
}

// commute tells whether two strings do.
func commute(t *testing.T, a, b api.Pauli) bool {
	t.Helper()
	together, e := pauli.Commute(a, b)
	if e != api.OK {
		t.Fatal(a, b, e)
	}
	return together
}
