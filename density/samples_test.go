package density_test

import (
	"math"
	"math/rand"
	"slices"

	"phasor/api"
	"phasor/apply"
	"phasor/gate"
	"phasor/pauli"
)

const (
	least = math.MinInt
	great = math.MaxInt
	tiny  = math.SmallestNonzeroFloat64
)

var (
	nan    = math.NaN()
	inf    = math.Inf(1)
	minus0 = math.Copysign(0, -1)
)

// bell is the chapter's state.
func bell() []complex128 { return []complex128{0.5 + 0.5i, 0, 0, 0.5 + 0.5i} }

// rows is a matrix of its entries, row by row.
func rows(l ...complex128) api.Matrix {
	return api.Matrix{N: int(math.Sqrt(float64(len(l)))), E: l}
}

// corners is the matrix of the chapter's state.
func corners() api.Matrix {
	return rows(
		0.5, 0, 0, 0.5,
		0, 0, 0, 0,
		0, 0, 0, 0,
		0.5, 0, 0, 0.5)
}

// unit is the entry of a row and a column alone.
func unit(n, row, column int) api.Matrix {
	m := blank(n)
	m.E[n*row+column] = 1
	return m
}

// blank is of noughts.
func blank(n int) api.Matrix { return api.Matrix{N: n, E: make([]complex128, n*n)} }

// read is a string of a text.
func read(text string) api.Pauli {
	p, e := pauli.Parse(text)
	if e != api.OK {
		panic(text)
	}
	return p
}

// anyString is one of n qubits at chance.
func anyString(chance *rand.Rand, n int) api.Pauli {
	return api.Pauli{N: n, X: uint64(chance.Intn(1 << n)), Z: uint64(chance.Intn(1 << n)), Phase: chance.Intn(4)}
}

// wrongStrings are not right.
func wrongStrings() []api.Pauli {
	l := []api.Pauli{
		{N: -1}, {N: -64}, {N: 65}, {N: 128}, {N: 1 << 32}, {N: great}, {N: least}, {N: -1, X: 1}, {N: least, X: math.MaxUint64, Phase: least},
	}
	for n := range 7 {
		for _, phase := range []int{-1, -4, 4, 5, 8, least, great} {
			l = append(l, api.Pauli{N: n, Phase: phase})
		}
		for _, q := range []int{n, n + 1, 32, 63} {
			l = append(l, api.Pauli{N: n, X: 1 << q}, api.Pauli{N: n, Z: 1 << q}, api.Pauli{N: n, X: 1 << q, Z: 1 << q, Phase: 2})
		}
	}
	return l
}

// noStates are rows that are none.
func noStates() [][]complex128 {
	return [][]complex128{
		nil, {}, make([]complex128, 0, 1), {1, 0, 0}, make([]complex128, 3, 4), make([]complex128, 5, 8), make([]complex128, 63), make([]complex128, 65), make([]complex128, 96),
		make([]complex128, 4095, 4096), make([]complex128, 4097), make([]complex128, 6144), make([]complex128, 8192), make([]complex128, 1<<16),
	}
}

// noDensities are no density matrices: such as are not right, and right ones of another number of rows.
func noDensities() []api.Matrix {
	l := []api.Matrix{
		{}, {N: 0, E: make([]complex128, 1)}, {N: 1}, {N: 1, E: make([]complex128, 2)}, {N: 2, E: make([]complex128, 3)}, {N: 2, E: make([]complex128, 5)}, {N: 4, E: make([]complex128, 8)}, {N: 2, E: make([]complex128, 3, 4)}, {N: 2, E: make([]complex128, 16)}, {N: 64, E: make([]complex128, 4095)}, {N: 64, E: make([]complex128, 4097)}, {N: 64},
		{N: -1, E: make([]complex128, 1)}, {N: -2, E: make([]complex128, 4)}, {N: -64, E: make([]complex128, 4096)}, {N: 1 << 32}, {N: great, E: make([]complex128, 1)}, {N: least}, {N: least, E: make([]complex128, 1)}, {N: -1 << 32}, {N: 128, E: make([]complex128, 1<<14)},
	}
	for n := range 70 {
		if n > 64 || n&(n-1) != 0 {
			l = append(l, blank(n))
		}
	}
	return l
}

// wrongQubits are lists that are not unlike ones of n qubits.
func wrongQubits(n int) [][]int {
	l := [][]int{{-1}, {n}, {n + 1}, {64}, {great}, {least}, {1 << 32}, make([]int, 2), make([]int, 100000)}
	var all []int
	for q := range n {
		all = append(all, q)
		l = append(l, []int{q, q}, []int{q, -1}, []int{q, n}, append(slices.Clone(all), q), append(slices.Clone(all), 0))
	}
	return append(l, append(slices.Clone(all), n), append([]int{-1}, all...))
}

// somePart is some of n qubits, unlike ones in any order, each number of them as likely.
func somePart(chance *rand.Rand, n int) []int { return chance.Perm(n)[:chance.Intn(n+1)] }

// rest is the other ones of n qubits, rising.
func rest(qubits []int, n int) []int {
	var others []int
	for q := range n {
		if !slices.Contains(qubits, q) {
			others = append(others, q)
		}
	}
	return others
}

// oddFloat is one as they come: noughts with a sign, infinities and NaN, the least and the greatest ones among them.
func oddFloat(chance *rand.Rand) float64 {
	l := []float64{
		0, minus0, 1, -1, 0.5, -3, 0.1, 1 + 0x1p-30, 1 << 53, -1e16, 1e200, -1e-200,
		tiny, -tiny, 3 * tiny, math.MaxFloat64, -math.MaxFloat64, inf, -inf, nan,
	}
	return l[chance.Intn(len(l))]
}

// tameFloat is a finite one, of which every fourth is a nought, with a sign or without.
func tameFloat(chance *rand.Rand) float64 {
	if chance.Intn(4) == 0 {
		return math.Copysign(0, chance.Float64()-0.5)
	}
	return chance.NormFloat64()
}

// noughtFloat is a nought with a sign or without, and seldom another.
func noughtFloat(chance *rand.Rand) float64 {
	if chance.Intn(12) == 0 {
		return tameFloat(chance)
	}
	return math.Copysign(0, chance.Float64()-0.5)
}

// draws are the kinds of floats that numbers are made of.
func draws() []func(chance *rand.Rand) float64 {
	return []func(chance *rand.Rand) float64{oddFloat, tameFloat, noughtFloat}
}

func numbers(chance *rand.Rand, n int, draw func(chance *rand.Rand) float64) []complex128 {
	l := make([]complex128, n)
	for k := range l {
		l[k] = complex(draw(chance), draw(chance))
	}
	return l
}

// anyMatrix is one of n qubits.
func anyMatrix(chance *rand.Rand, n int, draw func(chance *rand.Rand) float64) api.Matrix {
	return api.Matrix{N: 1 << n, E: numbers(chance, 1<<(2*n), draw)}
}

func anyMatrices(chance *rand.Rand, count, n int, draw func(chance *rand.Rand) float64) []api.Matrix {
	l := make([]api.Matrix, count)
	for i := range l {
		l[i] = anyMatrix(chance, n, draw)
	}
	return l
}

// anyGate is a gate at chance on some of n qubits, of which there is one at least; whether it halves or not, it may be said.
func anyGate(chance *rand.Rand, n int, halves bool) (api.GateKind, []int) {
	for {
		k := gate.Kinds()[chance.Intn(len(gate.Kinds()))]
		if gate.Arity(k) <= n && (halves || !gate.Halving(k)) {
			return k, chance.Perm(n)[:gate.Arity(k)]
		}
	}
}

// exact is an exact state of n qubits with at most so many halves, whose Weight is at most 1: what gates make of a basis state, or many amplitudes that are small, or few that are great.
func exact(chance *rand.Rand, n, halves int) []complex128 {
	s := make([]complex128, 1<<n)
	if chance.Intn(3) == 0 {
		s[chance.Intn(len(s))] = [4]complex128{1, 1i, -1, -1i}[chance.Intn(4)]
		return made(chance, s, n, halves)
	}
	few := 1 + chance.Intn(len(s))
	part := math.Ldexp(1, -halves)
	most := int(math.Sqrt(0.5/float64(few)) / part)
	for _, k := range chance.Perm(len(s))[:few] {
		s[k] = complex(part*float64(chance.Intn(2*most+1)-most), part*float64(chance.Intn(2*most+1)-most))
	}
	return s
}

// made is what gates at chance make of a state, of which at most so many halve.
func made(chance *rand.Rand, s []complex128, n, halves int) []complex128 {
	for range 4 * n {
		k, qubits := anyGate(chance, n, halves > 0)
		if gate.Halving(k) {
			halves--
		}
		s, _ = apply.Gate(s, k, qubits)
	}
	for k, z := range s {
		s[k] = unsigned(z)
	}
	return s
}

// twoParts is an exact state of n qubits with at most so many halves and a Weight of at most 1, that is one of these qubits and one of the others.
func twoParts(chance *rand.Rand, qubits []int, n, halves int) []complex128 {
	share := chance.Intn(halves + 1)
	a, b := exact(chance, len(qubits), share), exact(chance, n-len(qubits), halves-share)
	s := make([]complex128, 1<<n)
	for place := range s {
		s[place] = a[indexAt(place, qubits)] * b[indexAt(place, rest(qubits, n))]
	}
	for k, z := range s {
		s[k] = unsigned(z)
	}
	return s
}

// sameFloat tells whether floats have the same bits, two NaNs counting as the same.
func sameFloat(x, y float64) bool {
	return math.Float64bits(x) == math.Float64bits(y) || x != x && y != y
}

func sameNumber(a, b complex128) bool {
	return sameFloat(real(a), real(b)) && sameFloat(imag(a), imag(b))
}

func sameMatrix(a, b api.Matrix) bool {
	return a.N == b.N && slices.EqualFunc(a.E, b.E, sameNumber)
}

// equal tells whether matrices are so by ==.
func equal(a, b api.Matrix) bool { return a.N == b.N && slices.Equal(a.E, b.E) }
