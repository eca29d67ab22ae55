package matrix_test

import (
	"math"
	"math/rand"
	"testing"

	"phasor/api"
	"phasor/matrix"
)

// rest holds the numbers from 0 to below n but one.
func rest(n, left int) []int {
	var l []int
	for i := range n {
		if i != left {
			l = append(l, i)
		}
	}
	return l
}

// opposite turns both signs.
func opposite(z complex128) complex128 { return complex(-real(z), -imag(z)) }

// down is what Det promises of some rows and some columns of a matrix, each term reckoned by itself.
func down(m api.Matrix, rows, columns []int) complex128 {
	if len(rows) == 1 {
		return entry(m, rows[0], columns[0])
	}
	var terms []complex128
	for place, column := range columns {
		var others []int
		for _, i := range rest(len(columns), place) {
			others = append(others, columns[i])
		}
		term := times(entry(m, rows[0], column), down(m, rows[1:], others))
		if place%2 == 1 {
			term = opposite(term)
		}
		terms = append(terms, term)
	}
	return total(terms)
}

// P7.6: m without a row and a column, to the bit, wherever they stand.
func TestMinor(t *testing.T) {
	chance := rand.New(rand.NewSource(84))
	for n := 2; n <= 64; n++ {
		m := odd(chance, n)
		for row := range n {
			for column := range n {
				if n > 7 && chance.Intn(n*n) > 10 {
					continue
				}
				wanted := api.Matrix{N: n - 1}
				for _, i := range rest(n, row) {
					for _, j := range rest(n, column) {
						wanted.E = append(wanted.E, entry(m, i, j))
					}
				}
				got, e := matrix.Minor(m, row, column)
				wantMatrix(t, "Minor", got, e, wanted)
			}
		}
		for _, wrong := range []int{-1, n, n + 1, math.MinInt, math.MaxInt} {
			got, e := matrix.Minor(m, wrong, 0)
			wantNone(t, "Minor, row", got, e, api.ErrShape)
			got, e = matrix.Minor(m, n-1, wrong)
			wantNone(t, "Minor, column", got, e, api.ErrShape)
		}
	}
	got, e := matrix.Minor(of(1, 1), 0, 0)
	wantNone(t, "Minor of one row", got, e, api.ErrShape)
}

// P7.6: determinants to the bit, of any floats.
func TestDet(t *testing.T) {
	chance := rand.New(rand.NewSource(85))
	for n := 1; n <= 6; n++ {
		for range 40 {
			for _, m := range []api.Matrix{odd(chance, n), tame(chance, n), parts(chance, n, 1)} {
				z, e := matrix.Det(m)
				wantNumber(t, "Det", z, down(m, rest(n, -1), rest(n, -1)))
				if e != api.OK {
					t.Errorf("%d rows: %d", n, e)
				}
			}
		}
	}
	for n := 7; n <= 64; n++ {
		if z, e := matrix.Det(unit(n, 1)); e != api.ErrBig || !sameNumber(z, 0) {
			t.Errorf("Det of %d rows: %v, %d", n, z, e)
		}
		m, e := matrix.Adjugate(unit(n, 1))
		wantNone(t, "Adjugate", m, e, api.ErrBig)
	}
}

// P7.6: determinants by hand, but for the signs of noughts.
func TestDetByHand(t *testing.T) {
	for _, c := range []struct {
		m      api.Matrix
		wanted complex128
	}{
		{of(1, 7-2i), 7 - 2i},
		{of(2, 1, 2i, 3, 4), 4 - 6i},
		{of(2, 0, 1, 1, 0), -1},
		{of(3, 2, 0, 1, 1, 1i, 0, 0, 3, 1), 3 + 2i},
		{of(3, 1, 2, 3, 4, 5, 6, 7, 8, 10), -3},
		{of(3, 0, 0, 1, 1, 0, 0, 0, 1, 0), 1},
		{of(4, 0, 1, 0, 0, 0, 0, 1, 0, 0, 0, 0, 1, 1, 0, 0, 0), -1},
		{unit(6, 2i), -64},
		{of(2, complex(nan, 0), 0, 0, 1), complex(nan, nan)},
	} {
		z, e := matrix.Det(c.m)
		wantNumber(t, "Det by hand", unsigned(z), c.wanted)
		if e != api.OK {
			t.Errorf("%v: %d", c.m, e)
		}
	}
}

// P7.6: of a term of an odd column the product is turned, so that a nought that it comes to gets a sign; a turned factor would not give it one. And one entry is answered as it is.
func TestSignsOfDet(t *testing.T) {
	for _, c := range []struct {
		m      api.Matrix
		wanted complex128
	}{
		{of(1, complex(minus0, minus0)), complex(minus0, minus0)},
		{of(2, complex(minus0, 0), complex(1, 1), complex(1, 1), complex(1, 0)), complex(minus0, -2)},
		{of(2, complex(0, 0), complex(1, 1), complex(1, 1), complex(1, 0)), complex(0, -2)},
	} {
		z, _ := matrix.Det(c.m)
		wantNumber(t, "signs", z, c.wanted)
	}
}

// P7.6: the adjugate to the bit, of any floats: of row i and column j what is left without row j and column i.
func TestAdjugate(t *testing.T) {
	chance := rand.New(rand.NewSource(86))
	for n := 2; n <= 6; n++ {
		for range 12 {
			for _, m := range []api.Matrix{odd(chance, n), tame(chance, n), parts(chance, n, 1)} {
				wanted := api.Matrix{N: n}
				for i := range n {
					for j := range n {
						z := down(m, rest(n, j), rest(n, i))
						if (i+j)%2 == 1 {
							z = opposite(z)
						}
						wanted.E = append(wanted.E, z)
					}
				}
				got, e := matrix.Adjugate(m)
				wantMatrix(t, "Adjugate", got, e, wanted)
			}
		}
	}
	for _, z := range []complex128{7, 0, complex(nan, inf), complex(minus0, minus0)} {
		got, e := matrix.Adjugate(of(1, z))
		wantMatrix(t, "Adjugate of one row", got, e, of(1, 1))
	}
	got, e := matrix.Adjugate(of(2, 1, 2, 3, 4))
	wantMatrix(t, "Adjugate by hand", got, e, of(2, 4, complex(-2, minus0), complex(-3, minus0), 1))
}
