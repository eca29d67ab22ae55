package matrix_test

import (
	"math"
	"math/rand"
	"testing"

	"phasor/api"
	"phasor/matrix"
)

// P7.2: products to the bit, of any floats: each term by layer 3's Mul, added from the first on.
func TestMul(t *testing.T) {
	chance := rand.New(rand.NewSource(75))
	for n := 1; n <= 64; n++ {
		if n > 12 && n < 60 && n%8 != 0 {
			continue
		}
		for _, make := range []func(*rand.Rand, int) api.Matrix{odd, tame} {
			a, b := make(chance, n), make(chance, n)
			m, e := matrix.Mul(a, b)
			wantMatrix(t, "Mul", m, e, product(a, b))
		}
	}
}

// P7.2: products by hand: which matrix has the rows and which the columns, where the sum begins, and how it is rounded.
func TestMulByHand(t *testing.T) {
	for _, c := range [][3]api.Matrix{
		{of(2, 1, 2, 3, 4), of(2, 5, 6, 7, 8), of(2, 19, 22, 43, 50)},
		{of(2, 5, 6, 7, 8), of(2, 1, 2, 3, 4), of(2, 23, 34, 31, 46)},
		{of(1, 2i), of(1, 3i), of(1, -6)},
		{of(2, 1i, 0, 0, 1), of(2, 0, 1, 1, 0), of(2, 0, 1i, 1, 0)},
		{of(1, complex(minus0, 0)), of(1, 1), of(1, complex(minus0, 0))},
		{of(2, complex(minus0, minus0), complex(minus0, minus0), 0, 0), of(2, complex(1, minus0), 0, complex(1, minus0), 0), of(2, complex(minus0, 0), complex(0, minus0), 0, 0)},
	} {
		m, e := matrix.Mul(c[0], c[1])
		wantMatrix(t, "Mul by hand", m, e, c[2])
	}
	ones := of(3, 1, 1, 1, 1, 1, 1, 1, 1, 1)
	m, e := matrix.Mul(ones, of(3, 1, 1<<53, 1<<53, 1<<53, -1<<53, 1, -1<<53, 1, -1<<53))
	wantMatrix(t, "each sum rounded", m, e, of(3, 0, 1, 0, 0, 1, 0, 0, 1, 0))
}

// P7.2: matrices of one size alone have a product.
func TestMulRefuses(t *testing.T) {
	for a := 1; a <= 64; a++ {
		for _, b := range []int{1, 2, 3, 8, 63, 64} {
			if a != b {
				m, e := matrix.Mul(unit(a, 1), unit(b, 1))
				wantNone(t, "Mul", m, e, api.ErrShape)
			}
		}
	}
}

// P7.2: each entry of the one times all of the other, to the bit.
func TestKron(t *testing.T) {
	chance := rand.New(rand.NewSource(76))
	for a := 1; a <= 64; a++ {
		for b := 1; b <= 64; b++ {
			if a*b > 64 {
				m, e := matrix.Kron(unit(a, 1), unit(b, 1))
				wantNone(t, "Kron", m, e, api.ErrBig)
				continue
			}
			l, r := odd(chance, a), odd(chance, b)
			wanted := unit(a*b, 0)
			for i := range a {
				for j := range a {
					for k := range b {
						for h := range b {
							wanted.E[a*b*(i*b+k)+j*b+h] = times(entry(l, i, j), entry(r, k, h))
						}
					}
				}
			}
			m, e := matrix.Kron(l, r)
			wantMatrix(t, "Kron", m, e, wanted)
		}
	}
	m, e := matrix.Kron(of(2, 1, 2, 3, 4), of(2, 0, 5, 6, 7))
	wantMatrix(t, "Kron by hand", m, e, of(4,
		0, 5, 0, 10,
		6, 7, 12, 14,
		0, 15, 0, 20,
		18, 21, 24, 28))
}

// P7.3: numbers to the bit, each a row's sum.
func TestAct(t *testing.T) {
	chance := rand.New(rand.NewSource(77))
	for n := 1; n <= 64; n++ {
		for _, make := range []func(*rand.Rand, int) api.Matrix{odd, tame} {
			m, v := make(chance, n), make(chance, n).E[:n]
			l, e := matrix.Act(m, v)
			if e != api.OK || len(l) != n {
				t.Fatalf("%d rows: %d numbers, %d", n, len(l), e)
			}
			for i := range n {
				var terms []complex128
				for k := range n {
					terms = append(terms, times(entry(m, i, k), v[k]))
				}
				wantNumber(t, "Act", l[i], total(terms))
			}
			for _, wrong := range [][]complex128{nil, v[:n-1], append(v[:n:n], 1), append(v[:n:n], v...)} {
				if l, e := matrix.Act(m, wrong); e != api.ErrShape || len(l) != 0 {
					t.Errorf("%d rows, %d numbers: %v, %d", n, len(wrong), l, e)
				}
			}
		}
	}
	l, e := matrix.Act(of(2, 1, 2, 3, 4), []complex128{1, 10i})
	if e != api.OK || len(l) != 2 || l[0] != 1+20i || l[1] != 3+40i {
		t.Errorf("Act by hand: %v, %d", l, e)
	}
}

// P7.6: as many products as are told, the identity first and the matrix on the right, each rounded: squaring would be rounded otherwise.
func TestPower(t *testing.T) {
	chance := rand.New(rand.NewSource(78))
	for n := 1; n <= 6; n++ {
		for _, m := range []api.Matrix{odd(chance, n), tame(chance, n), tame(chance, n)} {
			wanted := unit(n, 1)
			for k := range 65 {
				p, e := matrix.Power(m, k)
				wantMatrix(t, "Power", p, e, wanted)
				wanted = product(wanted, m)
			}
		}
	}
	for _, k := range []int{-1, -64, 65, 66, 128, math.MaxInt, math.MinInt} {
		p, e := matrix.Power(unit(3, 1), k)
		wantNone(t, "Power", p, e, api.ErrShape)
	}
	p, e := matrix.Power(tame(chance, 64), 0)
	wantMatrix(t, "Power 0 of 64 rows", p, e, unit(64, 1))
	p, e = matrix.Power(of(1, 1i), 63)
	wantEqual(t, "i to the power 63", p, of(1, -1i))
	p, e = matrix.Power(of(2, 1, 1, 0, 1), 64)
	wantMatrix(t, "a shear", p, e, of(2, 1, 64, 0, 1))
}

// P7.6: the identity is multiplied, too: an infinity makes its row and its column no numbers at the first power already, and a nought loses its sign.
func TestPowerOneIsAProduct(t *testing.T) {
	p, e := matrix.Power(of(2, complex(inf, 0), 1, complex(minus0, minus0), 2), 1)
	wantMatrix(t, "Power 1", p, e, product(unit(2, 1), of(2, complex(inf, 0), 1, complex(minus0, minus0), 2)))
	if !math.IsNaN(imag(p.E[0])) || !math.IsNaN(real(p.E[2])) || p.E[1] != 1 {
		t.Errorf("%v", p.E)
	}
	p, e = matrix.Power(of(1, complex(minus0, minus0)), 1)
	wantMatrix(t, "Power 1 of a nought", p, e, of(1, complex(0, minus0)))
}
