package odds_test

import (
	"math"
	"math/rand"
	"testing"

	"phasor/api"
)

const (
	least = math.MinInt
	great = math.MaxInt
	tiny  = math.SmallestNonzeroFloat64
	most  = math.MaxFloat64
)

var (
	nan    = math.NaN()
	inf    = math.Inf(1)
	minus0 = math.Copysign(0, -1)
)

// floats holds those that formulas part at: signs of noughts, what is rounded, what overflows, what is no number.
func floats() []float64 {
	return []float64{
		0, minus0, 1, -1, 0.5, -3, 0.1, 1 + 0x1p-30, 1 - 0x1p-53, 1 << 53, -1e16, 1e200, -1e-200, 0x1p-537, -0x1p-530,
		tiny, -tiny, 3 * tiny, most, -most, inf, -inf, nan,
	}
}

// odd is a row of floats as they come, noughts with a sign, infinities and NaN among them; tame is one without the last two; small is one whose squares are the least floats.
func odd(chance *rand.Rand, n int) []complex128 {
	l := floats()
	return drawn(n, func() float64 { return l[chance.Intn(len(l))] })
}

func tame(chance *rand.Rand, n int) []complex128 {
	return drawn(n, func() float64 {
		if chance.Intn(4) == 0 {
			return math.Copysign(0, chance.Float64()-0.5)
		}
		return chance.NormFloat64()
	})
}

func small(chance *rand.Rand, n int) []complex128 {
	l := []float64{0, minus0, 0x1p-537, -0x1p-537, 0x1.8p-537, 0x1p-539, -0x1p-536}
	return drawn(n, func() float64 { return l[chance.Intn(len(l))] })
}

// exact is a row whose parts are multiples of 2^-halves, and whose weight is at most 1, though often close to it.
func exact(chance *rand.Rand, n, halves int) []complex128 {
	l := drawn(n, chance.NormFloat64)
	if chance.Intn(2) == 0 {
		for k := range l {
			if chance.Intn(3) > 0 {
				l[k] = 0
			}
		}
	}
	whole := 0.0
	for _, z := range l {
		whole += real(z)*real(z) + imag(z)*imag(z)
	}
	// A little more than the root: what is cut off below can only make parts smaller.
	size := math.Sqrt(whole) * (1 + 0x1p-40)
	if whole == 0 {
		l[chance.Intn(n)] = [4]complex128{1, 1i, -1, -1i}[chance.Intn(4)]
		size = 1
	}
	cut := func(x float64) float64 { return math.Trunc(x/size*math.Ldexp(1, halves))*math.Ldexp(1, -halves) + 0 }
	for k, z := range l {
		l[k] = complex(cut(real(z)), cut(imag(z)))
	}
	return l
}

func drawn(n int, draw func() float64) []complex128 {
	l := make([]complex128, n)
	for k := range l {
		l[k] = complex(draw(), draw())
	}
	return l
}

// states holds rows of floats of all kinds.
func states(chance *rand.Rand, n int) [][]complex128 {
	return [][]complex128{odd(chance, 1<<n), tame(chance, 1<<n), small(chance, 1<<n), exact(chance, 1<<n, chance.Intn(25))}
}

// wrongs holds rows that are no states. What room a row has behind its end is nobody's.
func wrongs() [][]complex128 {
	return [][]complex128{
		nil, {}, make([]complex128, 0, 1), {1, 0, 0}, make([]complex128, 3, 4), make([]complex128, 5, 8), make([]complex128, 12),
		make([]complex128, 4095, 4096), make([]complex128, 4097), make([]complex128, 6144), make([]complex128, 8192), make([]complex128, 1<<20),
	}
}

// noQubits holds numbers that no qubit of n has.
func noQubits(n int) []int {
	return []int{-1, -2, n, n + 1, 12, 13, 31, 32, 62, 63, 64, 65, 128, least, least + 1, great, great - 1}
}

// choices is all ways to choose so many of n qubits, in all orders.
func choices(n, many int) [][]int {
	if many == 0 {
		return [][]int{{}}
	}
	var l [][]int
	for _, ahead := range choices(n, many-1) {
		for q := range n {
			if !holds(ahead, q) {
				l = append(l, append(append([]int{}, ahead...), q))
			}
		}
	}
	return l
}

func holds(l []int, x int) bool {
	for _, y := range l {
		if x == y {
			return true
		}
	}
	return false
}

// sameFloat tells whether floats have the same bits, two NaNs counting as the same.
func sameFloat(x, y float64) bool {
	return math.Float64bits(x) == math.Float64bits(y) || x != x && y != y
}

func sameNumber(a, b complex128) bool {
	return sameFloat(real(a), real(b)) && sameFloat(imag(a), imag(b))
}

func sameRow(a, b []complex128) bool {
	if len(a) != len(b) {
		return false
	}
	for k := range a {
		if !sameNumber(a[k], b[k]) {
			return false
		}
	}
	return true
}

func copied(l []complex128) []complex128 { return append([]complex128{}, l...) }

// squared is layer 3's Square, written out.
func squared(z complex128) float64 {
	p, q := real(z)*real(z), imag(z)*imag(z)
	return p + q
}

// added is a sum as the chapter tells it: the first one, and the others added one behind the other.
func added(l []float64) float64 {
	sum := l[0]
	for _, x := range l[1:] {
		sum += x
	}
	return sum
}

// want compares to the bit, and takes an error to be wrong.
func want(t *testing.T, what string, got []complex128, e api.Errno, wanted ...complex128) {
	t.Helper()
	if e != api.OK || len(got) != len(wanted) {
		t.Errorf("%s: %d amplitudes, error %d, not %d", what, len(got), e, len(wanted))
		return
	}
	for k := range got {
		if !sameNumber(got[k], wanted[k]) {
			t.Errorf("%s: place %d: %v, not %v", what, k, got[k], wanted[k])
			return
		}
	}
}

// wantFloats is want of weights.
func wantFloats(t *testing.T, what string, got []float64, e api.Errno, wanted ...float64) {
	t.Helper()
	if e != api.OK || len(got) != len(wanted) {
		t.Errorf("%s: %d weights, error %d, not %d", what, len(got), e, len(wanted))
		return
	}
	for m := range got {
		if !sameFloat(got[m], wanted[m]) {
			t.Errorf("%s: number %d: %v, not %v", what, m, got[m], wanted[m])
			return
		}
	}
}
