package apply_test

import (
	"math/rand"
	"testing"

	"phasor/api"
	"phasor/apply"
)

// P10.4: any matrix of floats on any qubits, to the bit; on none at all it is a factor.
func TestMatrix(t *testing.T) {
	chance := rand.New(rand.NewSource(1004))
	for n := range 13 {
		for many := range min(n, 6) + 1 {
			for range 1 + 32>>(n/2+many) {
				qubits := chance.Perm(n)[:many]
				for _, e := range states(chance, 2*many) {
					m := api.Matrix{N: 1 << many, E: e}
					for _, s := range states(chance, n) {
						state, entries := copied(s), copied(e)
						got, err := apply.Matrix(s, m, qubits)
						want(t, "Matrix", got, err, slowMatrix(s, m, qubits)...)
						if !sameRow(s, state) || !sameRow(e, entries) {
							t.Fatal("an argument was changed")
						}
					}
				}
			}
		}
	}
}

// P10.4: by hand: which index is whose, that sums go from the first on, that all is cleaned.
func TestMatrixByHand(t *testing.T) {
	none := complex(minus0, minus0)
	for _, c := range []struct {
		what   string
		m      []complex128
		n      int
		qubits []int
		s      []complex128
		wanted []complex128
	}{
		{"a factor", []complex128{2i}, 1, nil, []complex128{1, 1i}, []complex128{2i, -2}},
		{"a factor of no qubit", []complex128{3}, 1, []int{}, []complex128{2}, []complex128{6}},
		{"one stays, yet is cleaned", []complex128{1, 0, 0, 1}, 2, []int{0}, []complex128{none, none}, []complex128{0, 0}},
		{"rows and columns", []complex128{1, 2, 3, 4}, 2, []int{0}, []complex128{1, 10}, []complex128{21, 43}},
		{"the qubit above", []complex128{1, 2, 3, 4}, 2, []int{1}, []complex128{1, 2, 10, 20}, []complex128{21, 42, 43, 86}},
		{"two, turned round", []complex128{0, 0, 0, 0, 1, 0, 0, 0, 0, 0, 0, 0, 0, 0, 0, 0}, 4, []int{1, 0}, []complex128{5, 6, 7, 8}, []complex128{0, 0, 5, 0}},
		{"two, as they stand", []complex128{0, 0, 0, 0, 1, 0, 0, 0, 0, 0, 0, 0, 0, 0, 0, 0}, 4, []int{0, 1}, []complex128{5, 6, 7, 8}, []complex128{0, 5, 0, 0}},
		{"one of the others", []complex128{0, 1, 0, 0, 0, 0, 0, 0, 0, 0, 0, 0, 0, 0, 0, 0}, 4, []int{1, 0}, []complex128{5, 6, 7, 8}, []complex128{7, 0, 0, 0}},
		{"rounded sums", []complex128{1, 1, 1, -1}, 2, []int{0}, []complex128{1 << 53, 1}, []complex128{1 << 53, 1<<53 - 1}},
	} {
		got, e := apply.Matrix(c.s, api.Matrix{N: c.n, E: c.m}, c.qubits)
		want(t, c.what, got, e, c.wanted...)
	}
}

// identity is a right matrix of any number of rows.
func identity(n int) api.Matrix {
	m := api.Matrix{N: n, E: make([]complex128, n*n)}
	for k := range n {
		m.E[k*(n+1)] = 1
	}
	return m
}

// P10.4: no state ahead of a matrix that is not right, wrong qubits, or a matrix of another size.
func TestMatrixRefuses(t *testing.T) {
	for _, s := range wrongs() {
		for _, m := range []api.Matrix{{}, identity(2), {N: 3, E: make([]complex128, 8)}} {
			got, e := apply.Matrix(s, m, []int{0})
			wantError(t, "no state", got, e, api.ErrState)
		}
	}
	for n := range 13 {
		s := make([]complex128, 1<<n)
		s[0] = 1
		all := make([]int, n)
		for q := range all {
			all[q] = q
		}
		for _, m := range []api.Matrix{
			{}, {N: 1}, {N: 2, E: make([]complex128, 3)}, {N: 2, E: make([]complex128, 5)}, {N: 0, E: make([]complex128, 1)}, {N: -2, E: make([]complex128, 4)},
			{N: 1 << 32}, {N: least}, {N: great}, identity(128), identity(65), {N: 64, E: make([]complex128, 4095, 4096)},
		} {
			for many := range n + 1 {
				got, e := apply.Matrix(s, m, all[:many])
				wantError(t, "a matrix that is not right", got, e, api.ErrShape)
			}
		}
		for side := 1; side <= 64; side++ {
			for many := range n + 1 {
				got, e := apply.Matrix(s, identity(side), all[:many])
				if side == 1<<many {
					want(t, "as large as it must be", got, e, s...)
				} else {
					wantError(t, "a matrix of another size", got, e, api.ErrShape)
				}
			}
		}
		for many := 1; many <= 6; many++ {
			for at := range many {
				for _, wrong := range []int{-1, n, n + 1, 63, 64, least, great, (at + 1) % many} {
					if many == 1 && wrong == 0 && n > 0 {
						continue
					}
					l := []int{0, 1, 2, 3, 4, 5}[:many]
					l[at] = wrong
					got, e := apply.Matrix(s, identity(1<<many), l)
					wantError(t, "wrong qubits", got, e, api.ErrShape)
				}
			}
		}
		for _, many := range []int{13, 63, 64, 65, 128, 1 << 20} {
			got, e := apply.Matrix(s, identity(1), make([]int, many))
			wantError(t, "too many qubits", got, e, api.ErrShape)
			l := make([]int, many)
			for i := range l {
				l[i] = i
			}
			got, e = apply.Matrix(s, identity(1), l)
			wantError(t, "too many unlike qubits", got, e, api.ErrShape)
		}
	}
}
