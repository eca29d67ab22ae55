package state_test

import (
	"math"
	"math/big"
	"math/rand"
	"testing"

	"phasor/api"
	"phasor/state"
)

// weightOf is the weight as an exact number.
func weightOf(s []complex128) *big.Rat {
	whole := new(big.Rat)
	for _, z := range s {
		for _, x := range []float64{real(z), imag(z)} {
			part := new(big.Rat)
			part.SetFloat64(x)
			whole.Add(whole, part.Mul(part, part))
		}
	}
	return whole
}

// wantWeight takes a state's Weight to be exactly so.
func wantWeight(t *testing.T, what string, s []complex128, wanted *big.Rat) {
	t.Helper()
	w, e := state.Weight(s)
	got := new(big.Rat)
	if got.SetFloat64(w); got.Cmp(wanted) != 0 || e != api.OK {
		f, _ := wanted.Float64()
		t.Errorf("%s: %v, %d, not %v", what, w, e, f)
	}
}

// P9.7: there and back, and the weight stays.
func thereAndBack(t *testing.T, s []complex128, low, high int) {
	t.Helper()
	waved, e := state.Fourier(s, low, high)
	if e != api.OK {
		t.Fatal(e)
	}
	x, e := state.Back(waved, low, high)
	want(t, "Back of Fourier", x, e, s...)
	wantWeight(t, "Weight of Fourier", waved, weightOf(s))
	back, _ := state.Back(s, low, high)
	x, e = state.Fourier(back, low, high)
	want(t, "Fourier of Back", x, e, s...)
	if !state.Exact(waved, state.Halves(s)+1) {
		t.Errorf("%d halves become %d", state.Halves(s), state.Halves(waved))
	}
}

// P9.7: a shift becomes phases.
func phases(t *testing.T, s []complex128) {
	t.Helper()
	moved, _ := state.Shift(s, 1)
	moved, e := state.Fourier(moved, 0, 1)
	waved, _ := state.Fourier(s, 0, 1)
	for j := range waved {
		waved[j] = turned(waved[j], j)
	}
	want(t, "Fourier of Shift", unsigned(moved), e, unsigned(waved)...)
}

func TestFourierFollows(t *testing.T) {
	chance := rand.New(rand.NewSource(912))
	for n := 2; n <= 12; n++ {
		for range 200 >> (n / 2) {
			l := chance.Perm(n)
			thereAndBack(t, exact(chance, 1<<n, 1+chance.Intn(22)), l[0], l[1])
			thereAndBack(t, exact(chance, 1<<n, 22), l[1], l[0])
			phases(t, exact(chance, 4, 1+chance.Intn(22)))
		}
		for k := range 8 {
			s, _ := state.Basis(n, k*(1<<n-1)/7)
			thereAndBack(t, s, 0, n-1)
		}
	}
	for k := range 4 {
		s, _ := state.Basis(2, k)
		phases(t, s)
	}
}

// P9.8: orders and their inverses, of any floats.
func thereAndOrdered(t *testing.T, s []complex128, to []int) {
	t.Helper()
	inverse := make([]int, len(to))
	for q, p := range to {
		inverse[p] = q
	}
	x, _ := state.Order(s, to)
	x, e := state.Order(x, inverse)
	want(t, "Order and its inverse", x, e, s...)
}

// P9.8: no Order, Turn or Conj changes the weight, and Dot(s, s) is it.
func keepsWeight(t *testing.T, s []complex128, to []int) {
	t.Helper()
	weight := weightOf(s)
	wantWeight(t, "Weight", s, weight)
	x, _ := state.Order(s, to)
	wantWeight(t, "Weight of Order", x, weight)
	x, _ = state.Conj(s)
	wantWeight(t, "Weight of Conj", x, weight)
	for k := range 4 {
		x, _ = state.Turn(s, k)
		wantWeight(t, "Weight of Turn", x, weight)
	}
	z, e := state.Dot(s, s)
	if w, _ := state.Weight(s); !sameNumber(z, complex(w, 0)) || e != api.OK {
		t.Errorf("Dot: %v, %d, not %v", z, e, w)
	}
}

// P9.8: weights multiply.
func weightsMultiply(t *testing.T, a, b []complex128) {
	t.Helper()
	both, e := state.Kron(a, b)
	if e != api.OK {
		t.Fatal(e)
	}
	wantWeight(t, "Weight of Kron", both, new(big.Rat).Mul(weightOf(a), weightOf(b)))
	first, _ := state.Weight(a)
	second, _ := state.Weight(b)
	if w, _ := state.Weight(both); !sameFloat(w, first*second) {
		t.Errorf("Weight of Kron: %v, not %v times %v", w, first, second)
	}
}

func TestWeightsFollow(t *testing.T) {
	chance := rand.New(rand.NewSource(913))
	for n := range 13 {
		for range 100 >> (n / 2) {
			thereAndOrdered(t, odd(chance, 1<<n), chance.Perm(n))
			keepsWeight(t, exact(chance, 1<<n, chance.Intn(25)), chance.Perm(n))
			keepsWeight(t, exact(chance, 1<<n, 24), chance.Perm(n))
			m := chance.Intn(13 - n)
			h := chance.Intn(25)
			weightsMultiply(t, exact(chance, 1<<n, h), exact(chance, 1<<m, 24-h))
		}
	}
}

// FuzzFollows is P9.7 and P9.8, of states whose amplitudes come from bytes.
func FuzzFollows(f *testing.F) {
	f.Add([]byte{0, 16, 32, 255, 1, 7, 99, 200}, 2, 3, int64(1))
	f.Add([]byte{255, 0}, 12, 2, int64(2))
	f.Add([]byte{}, 0, 1, int64(3))
	f.Fuzz(func(t *testing.T, l []byte, n, m int, seed int64) {
		chance := rand.New(rand.NewSource(seed))
		read := func(qubits, halves int) []complex128 {
			s := make([]complex128, 1<<qubits)
			left := math.Ldexp(1, 2*halves)
			part := func(i int) float64 {
				if i >= len(l) {
					return 0
				}
				x := math.Trunc(math.Sqrt(left) * float64(int8(l[i])) / 128)
				left -= x * x
				return x*math.Ldexp(1, -halves) + 0
			}
			for k := range s {
				s[k] = complex(part(2*k), part(2*k+1))
			}
			return s
		}
		qubits, halves := (n%13+13)%13, (m%25+25)%25
		s := read(qubits, halves)
		to := chance.Perm(qubits)
		if !state.Exact(s, halves) {
			t.Fatalf("%v is not exact with %d halves", s, halves)
		}
		thereAndOrdered(t, s, to)
		keepsWeight(t, s, to)
		weightsMultiply(t, s, read(chance.Intn(13-qubits), 24-halves))
		if halves <= 22 {
			phases(t, read(2, halves))
			if qubits >= 2 {
				thereAndBack(t, s, to[0], to[1])
			}
		}
	})
}
