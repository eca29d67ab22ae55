package state_test

import (
	"math/rand"
	"testing"

	"phasor/state"
)

// P9.4: each product to the bit, in its place, of all sizes up to 12 qubits together.
func TestKron(t *testing.T) {
	chance := rand.New(rand.NewSource(907))
	for n := range 13 {
		for m := range 13 {
			if n+m > 12 {
				s, e := state.Kron(make([]complex128, 1<<n), make([]complex128, 1<<m))
				wantNone(t, "Kron", s, e)
				continue
			}
			for _, draw := range []func(*rand.Rand, int) []complex128{odd, tame} {
				high, low := draw(chance, 1<<n), draw(chance, 1<<m)
				wanted := make([]complex128, 1<<(n+m))
				for k := range wanted {
					wanted[k] = times(high[k>>m], low[k&(1<<m-1)])
				}
				s, e := state.Kron(high, low)
				want(t, "Kron", s, e, wanted...)
			}
		}
	}
	s, e := state.Kron([]complex128{1, 2i}, []complex128{3, -1, 0, 1i})
	want(t, "Kron by hand", s, e, 3, -1, 0, 1i, complex(0, 6), complex(minus0, -2), 0, complex(-2, 0))
}

// orders holds all orders of the numbers from 0 to below n.
func orders(n int) [][]int {
	if n == 0 {
		return [][]int{{}}
	}
	var l [][]int
	for _, o := range orders(n - 1) {
		for at := range n {
			longer := append([]int{}, o[:at]...)
			longer = append(longer, n-1)
			l = append(l, append(longer, o[at:]...))
		}
	}
	return l
}

// ordered asks each place of the answer where its amplitude came from.
func ordered(s []complex128, to []int) []complex128 {
	from := make([]complex128, len(s))
	for place := range s {
		k := 0
		for q := range to {
			if place&(1<<to[q]) != 0 {
				k += 1 << q
			}
		}
		from[place] = s[k]
	}
	return from
}

// P9.4: all orders of few qubits, some of many.
func TestOrder(t *testing.T) {
	chance := rand.New(rand.NewSource(908))
	for n := range 13 {
		l := [][]int{chance.Perm(n), chance.Perm(n), chance.Perm(n)}
		if n < 6 {
			l = orders(n)
		}
		for _, to := range l {
			s := odd(chance, 1<<n)
			x, e := state.Order(s, to)
			want(t, "Order", x, e, ordered(s, to)...)
		}
	}
	s, e := state.Order([]complex128{0, 1, 2, 3, 4, 5, 6, 7}, []int{1, 2, 0})
	want(t, "Order by hand", s, e, 0, 4, 1, 5, 2, 6, 3, 7)
	s, e = state.Order([]complex128{7i}, nil)
	want(t, "Order of none", s, e, 7i)
}

// P9.4: what is no order of a state's qubits.
func TestOrderRefuses(t *testing.T) {
	for n := range 13 {
		for _, to := range orders(min(n, 4)) {
			for q := len(to); q < n; q++ {
				to = append(to, q)
			}
			s := make([]complex128, 1<<n)
			x, e := state.Order(s, append(append([]int{}, to...), n))
			wantNone(t, "one more", x, e)
			x, e = state.Order(s, append(append([]int{}, to...), 0))
			wantNone(t, "one more, twice", x, e)
			for q := range n {
				x, e = state.Order(s, append(append([]int{}, to[:q]...), to[q+1:]...))
				wantNone(t, "one left out", x, e)
				for _, wrong := range []int{-1, n, n + 1, 63, 64, least, great, to[(q+1)%n]} {
					other := append([]int{}, to...)
					other[q] = wrong
					if n == 1 && wrong == 0 {
						continue
					}
					x, e = state.Order(s, other)
					wantNone(t, "a wrong one", x, e)
				}
			}
		}
	}
	long := make([]int, 1<<20)
	for q := range long {
		long[q] = q
	}
	x, e := state.Order(make([]complex128, 4096), long)
	wantNone(t, "a long one", x, e)
}

// P9.6: round, by numbers below 0 and great ones, too.
func TestShift(t *testing.T) {
	chance := rand.New(rand.NewSource(909))
	for n := range 13 {
		size := 1 << n
		s := odd(chance, size)
		for _, by := range []int{0, 1, 2, 3, size - 1, size, size + 1, -1, -2, -size, 1 - size, -1 - size, 12345, -12345, great, great - 1, least, least + 1, chance.Int(), -chance.Int()} {
			first := by % size
			if first < 0 {
				first += size
			}
			wanted := append(append([]complex128{}, s[size-first:]...), s[:size-first]...)
			x, e := state.Shift(s, by)
			want(t, "Shift", x, e, wanted...)
		}
	}
	s, e := state.Shift([]complex128{1, 2, 3, 4}, -5)
	want(t, "Shift by hand", s, e, 2, 3, 4, 1)
	s, e = state.Shift([]complex128{1, 2, 3, 4}, great)
	want(t, "Shift by the greatest", s, e, 2, 3, 4, 1)
	s, e = state.Shift([]complex128{1, 2, 3, 4}, least)
	want(t, "Shift by the least", s, e, 1, 2, 3, 4)
}
