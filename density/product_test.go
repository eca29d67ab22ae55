package density_test

import (
	"math/rand"
	"testing"

	"phasor/api"
)

// P23.4: by hand.
func TestProductByHand(t *testing.T) {
	for _, c := range []struct {
		s      []complex128
		qubits []int
		wanted bool
	}{
		{[]complex128{1, 2, 3, 6}, []int{0}, true}, {[]complex128{1, 2, 3, 6}, []int{1}, true}, {[]complex128{1, 2, 3, 5}, []int{0}, false}, {[]complex128{1, 2, 3, 5}, []int{1}, false}, {[]complex128{1, 2, 3, 5}, nil, true}, {[]complex128{1, 2, 3, 5}, []int{0, 1}, true}, {[]complex128{1, 2, 3, 5}, []int{1, 0}, true},
		{[]complex128{1, 1i, 1i, -1}, []int{0}, true}, {[]complex128{1, 1i, 1i, 1}, []int{0}, false}, {[]complex128{1, 1i, -1i, 1}, []int{0}, true}, {[]complex128{0, 0, 0, 0}, []int{0}, true}, {[]complex128{0, 1, 1, 0}, []int{0}, false}, {[]complex128{0, 1, 0, complex(minus0, 0)}, []int{0}, true},
		{[]complex128{1, 0, 0, 0, 0, 0, 1, 0}, []int{0}, true}, {[]complex128{1, 0, 0, 0, 0, 0, 1, 0}, []int{1}, false}, {[]complex128{1, 0, 0, 0, 0, 0, 1, 0}, []int{2}, false}, {[]complex128{1, 0, 0, 0, 0, 0, 1, 0}, []int{2, 1}, true}, {[]complex128{1, 0, 0, 0, 0, 0, 1, 0}, []int{0, 1}, false},
		{[]complex128{1e200}, nil, true}, {[]complex128{1e200 + 1e200i}, nil, false}, {[]complex128{complex(nan, 0)}, nil, false}, {[]complex128{complex(inf, 1)}, nil, true}, {[]complex128{complex(inf, inf)}, nil, false}, {[]complex128{complex(inf, 0)}, nil, false},
		{[]complex128{1, 0, 0, complex(0, nan)}, []int{0, 1}, false}, {[]complex128{1, 0, 0, complex(0, nan)}, []int{0}, false}, {[]complex128{1e200 + 1e200i, 0}, []int{0}, false}, {[]complex128{0, 0, 1e200 + 1e200i, 0}, []int{0}, false}, {[]complex128{tiny, 0, 0, tiny}, []int{0}, true},
	} {
		product.want(t, given{s: c.s, qubits: c.qubits}, told{is: c.wanted})
	}
}

// P23.4: of all sizes and floats of all kinds, and of states that are products but for one amplitude.
func TestProduct(t *testing.T) {
	chance := rand.New(rand.NewSource(2316))
	yes := 0
	for n := range 7 {
		for range 20 + 200>>n {
			qubits := somePart(chance, n)
			s := twoParts(chance, qubits, n, 20)
			product.want(t, given{s: s, qubits: qubits}, told{is: true})
			other := somePart(chance, n)
			product.wantSlow(t, given{s: s, qubits: other})
			s[chance.Intn(len(s))] += 0x1p-30
			product.wantSlow(t, given{s: s, qubits: qubits})
			for _, draw := range draws() {
				g := given{s: numbers(chance, 1<<n, draw), qubits: other}
				product.wantSlow(t, g)
				if slowProduct(g.s, g.qubits) {
					yes++
				}
			}
		}
	}
	if yes < 50 {
		t.Error("too few are products:", yes)
	}
}

// P23.4: what is no state is told ahead of how many qubits it has, and of which are asked.
func TestProductRefuses(t *testing.T) {
	for _, s := range noStates() {
		for _, qubits := range append(wrongQubits(3), nil, []int{0}) {
			product.refuses(t, "no state", given{s: s, qubits: qubits}, api.ErrState)
		}
	}
	for n := 7; n < 13; n++ {
		for _, qubits := range [][]int{nil, {0}, {n - 1}, {n}, {-1}} {
			product.refuses(t, "too many qubits", given{s: make([]complex128, 1<<n), qubits: qubits}, api.ErrDensity)
		}
	}
	for n := range 7 {
		for _, qubits := range wrongQubits(n) {
			product.refuses(t, "wrong qubits", given{s: make([]complex128, 1<<n), qubits: qubits}, api.ErrDensity)
		}
	}
}
