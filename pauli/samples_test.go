package pauli_test

import (
	"math"
	"math/rand"
	"slices"
	"testing"

	"phasor/api"
	"phasor/gate"
	"phasor/pauli"
)

const (
	least = math.MinInt
	great = math.MaxInt
	tiny  = math.SmallestNonzeroFloat64
)

var (
	nan    = math.NaN()
	inf    = math.Inf(1)
	minus0 = math.Copysign(0, -1)
)

// of is a string of letters, by hand.
func of(phase int, letters string) api.Pauli {
	p := api.Pauli{N: len(letters), Phase: phase}
	for q, letter := range letters {
		if letter == 'X' || letter == 'Y' {
			p.X += 1 << q
		}
		if letter == 'Z' || letter == 'Y' {
			p.Z += 1 << q
		}
	}
	return p
}

// lettersOf is a right string's letters, by hand.
func lettersOf(p api.Pauli) string {
	l := make([]byte, p.N)
	for q := range l {
		x, z := p.X/(1<<q)%2, p.Z/(1<<q)%2
		l[q] = [2][2]byte{{'I', 'Z'}, {'X', 'Y'}}[x][z]
	}
	return string(l)
}

// all is all right strings of n qubits.
func all(n int) []api.Pauli {
	var l []api.Pauli
	for phase := range 4 {
		for x := range uint64(1) << n {
			for z := range uint64(1) << n {
				l = append(l, api.Pauli{N: n, X: x, Z: z, Phase: phase})
			}
		}
	}
	return l
}

// anyString is one of n qubits at chance.
func anyString(chance *rand.Rand, n int) api.Pauli {
	cut := func(x uint64) uint64 {
		if n == 0 {
			return 0
		}
		return x >> (64 - n)
	}
	return api.Pauli{N: n, X: cut(chance.Uint64()), Z: cut(chance.Uint64()), Phase: chance.Intn(4)}
}

// sizes are numbers of qubits that a string may have: the least, the greatest, and where numbers of 32 and 64 bits end.
func sizes() []int { return []int{0, 1, 2, 3, 5, 12, 13, 31, 32, 33, 62, 63, 64} }

// wrongs are strings that are not right.
func wrongs() []api.Pauli {
	l := []api.Pauli{
		{N: -1}, {N: -2}, {N: -64}, {N: 65}, {N: 66}, {N: 128}, {N: 1 << 32}, {N: great}, {N: least}, {N: least + 1},
		{N: -1, X: 1}, {N: 65, X: 1, Z: 1}, {N: least, X: math.MaxUint64, Phase: least},
	}
	for _, n := range sizes() {
		for _, phase := range []int{-1, -2, -3, -4, 4, 5, 6, 8, 1 << 32, least, great, least + 1, great - 1} {
			l = append(l, api.Pauli{N: n, Phase: phase})
		}
		for q := n; q < 64; q++ {
			l = append(l, api.Pauli{N: n, X: 1 << q}, api.Pauli{N: n, Z: 1 << q}, api.Pauli{N: n, X: 1 << q, Z: 1 << q, Phase: 3})
		}
	}
	return l
}

// rows of amplitudes: odd is of floats as they come, noughts with a sign, infinities and NaN among them; tame is one without the last two; whole is one without noughts that have a sign.
func odd(chance *rand.Rand, n int) []complex128 {
	l := []float64{
		0, minus0, 1, -1, 0.5, -3, 0.1, 1 + 0x1p-30, 1 << 53, -1e16, 1e200, -1e-200,
		tiny, -tiny, 3 * tiny, math.MaxFloat64, -math.MaxFloat64, inf, -inf, nan,
	}
	return drawn(n, func() float64 { return l[chance.Intn(len(l))] })
}

func tame(chance *rand.Rand, n int) []complex128 {
	return drawn(n, func() float64 {
		if chance.Intn(4) == 0 {
			return math.Copysign(0, chance.Float64()-0.5)
		}
		return chance.NormFloat64()
	})
}

func whole(chance *rand.Rand, n int) []complex128 {
	l := odd(chance, n)
	for k, z := range l {
		l[k] = complex(unsigned(real(z)), unsigned(imag(z)))
	}
	return l
}

// grid is a row of multiples of 2^-12 with parts from -1 to 1, the ends among them.
func grid(chance *rand.Rand, n int) []complex128 {
	return drawn(n, func() float64 {
		if chance.Intn(5) == 0 {
			return []float64{0, 1, -1, 0x1p-12, -0x1p-12}[chance.Intn(5)]
		}
		return float64(chance.Intn(8193)-4096) / 4096
	})
}

func drawn(n int, draw func() float64) []complex128 {
	l := make([]complex128, n)
	for k := range l {
		l[k] = complex(draw(), draw())
	}
	return l
}

// unsigned takes the sign of a nought away.
func unsigned(x float64) float64 {
	if x == 0 {
		return 0
	}
	return x
}

// turned is a number times i, so many times.
func turned(z complex128, times int) complex128 {
	for range times {
		z = complex(-imag(z), real(z))
	}
	return z
}

// cliffords are the kinds that strings can be carried through.
func cliffords() []api.GateKind {
	var l []api.GateKind
	for k := api.GateI; k <= api.GateHH; k++ {
		l = append(l, k)
	}
	return l
}

// choices is all ways to choose so many of n qubits, in all orders.
func choices(n, many int) [][]int {
	if many == 0 {
		return [][]int{{}}
	}
	var l [][]int
	for _, ahead := range choices(n, many-1) {
		for q := range n {
			if !slices.Contains(ahead, q) {
				l = append(l, append(slices.Clone(ahead), q))
			}
		}
	}
	return l
}

// anyGate is a Clifford gate on some of n qubits, n above 0.
func anyGate(chance *rand.Rand, n int) (api.GateKind, []int) {
	for {
		k := cliffords()[chance.Intn(17)]
		if gate.Arity(k) <= n {
			return k, chance.Perm(n)[:gate.Arity(k)]
		}
	}
}

// sameFloat tells whether floats have the same bits, two NaNs counting as the same.
func sameFloat(x, y float64) bool {
	return math.Float64bits(x) == math.Float64bits(y) || x != x && y != y
}

func sameNumber(a, b complex128) bool {
	return sameFloat(real(a), real(b)) && sameFloat(imag(a), imag(b))
}

// want takes a string to be the one that is wanted, and an error to be wrong.
func want(t *testing.T, what string, got api.Pauli, e api.Errno, wanted api.Pauli) {
	t.Helper()
	if e != api.OK || got != wanted {
		t.Errorf("%s: %v, error %d, not %v", what, got, e, wanted)
	}
}

// wantNone takes a string beside an error to be of nothing.
func wantNone(t *testing.T, what string, got api.Pauli, e api.Errno) {
	t.Helper()
	if e != api.ErrPauli || got != (api.Pauli{}) {
		t.Errorf("%q: %v, error %d", what, got, e)
	}
}

// wantRow compares numbers to the bit, and takes an error to be wrong.
func wantRow(t *testing.T, what string, got []complex128, e api.Errno, wanted ...complex128) {
	t.Helper()
	if e != api.OK || !slices.EqualFunc(got, wanted, sameNumber) {
		t.Errorf("%s: %v, error %d, not %v", what, got, e, wanted)
	}
}

// wantNoRow takes numbers beside an error to be none.
func wantNoRow(t *testing.T, what string, got []complex128, e, wanted api.Errno) {
	t.Helper()
	if e != wanted || len(got) != 0 {
		t.Errorf("%s: %d numbers, error %d, not %d", what, len(got), e, wanted)
	}
}

// mul, act and through are what is answered of what may be asked.
func mul(t *testing.T, l ...api.Pauli) api.Pauli {
	t.Helper()
	p := l[0]
	for _, q := range l[1:] {
		both, e := pauli.Mul(p, q)
		if e != api.OK {
			t.Fatal("Mul", p, q, e)
		}
		p = both
	}
	return p
}

func act(t *testing.T, p api.Pauli, s []complex128) []complex128 {
	t.Helper()
	l, e := pauli.Act(p, s)
	if e != api.OK {
		t.Fatal("Act", p, len(s), e)
	}
	return l
}

func through(t *testing.T, p api.Pauli, k api.GateKind, qubits ...int) api.Pauli {
	t.Helper()
	behind, e := pauli.Through(p, k, qubits)
	if e != api.OK {
		t.Fatal("Through", p, k, qubits, e)
	}
	return behind
}
