package matrix_test

import (
	"math"
	"math/rand"
	"testing"

	"phasor/api"
	"phasor/gate"
	"phasor/matrix"
)

// P7.7: of matrices of at most 3 rows whose parts are sixteenths.
func TestSmallMatrices(t *testing.T) {
	chance := rand.New(rand.NewSource(87))
	for range 2000 {
		for n := 1; n <= 3; n++ {
			small(t, parts(chance, n, 16), parts(chance, n, 16))
		}
	}
	for n := 1; n <= 3; n++ {
		full := unit(n, 0)
		for i := range full.E {
			full.E[i] = complex(1-2*float64(i%2), 1-2*float64(i/2%2))
		}
		small(t, full, full)
		small(t, unit(n, 0), full)
		small(t, full, unit(n, -1+1i))
	}
}

func small(t *testing.T, a, b api.Matrix) {
	t.Helper()
	p, _ := matrix.Mul(a, b)
	whole, _ := matrix.Det(p)
	first, _ := matrix.Det(a)
	second, _ := matrix.Det(b)
	wantNumber(t, "Det of a product", unsigned(whole), unsigned(times(first, second)))
	adjugate, _ := matrix.Adjugate(a)
	p, _ = matrix.Mul(a, adjugate)
	wantEqual(t, "m times its Adjugate", p, unit(a.N, first))
	over, _ := matrix.Adjoint(a)
	z, _ := matrix.Det(over)
	wantNumber(t, "Det of the Adjoint", unsigned(z), unsigned(complex(real(first), -imag(first))))
	for j := range 6 {
		for k := range 6 - j {
			powers(t, a, j, k)
		}
	}
}

func powers(t *testing.T, m api.Matrix, j, k int) {
	t.Helper()
	one, _ := matrix.Power(m, j)
	other, _ := matrix.Power(m, k)
	both, _ := matrix.Power(m, j+k)
	p, e := matrix.Mul(one, other)
	if !matrix.Commute(one, other) || !matrix.Equal(p, both) || e != api.OK {
		t.Errorf("powers %d and %d of %v", j, k, m)
	}
}

// P7.8: of any floats, the Adjoint of a product is that of both the other way round, but for the signs of noughts.
func TestAdjointOfAProduct(t *testing.T) {
	chance := rand.New(rand.NewSource(88))
	for n := 1; n <= 64; n++ {
		if n > 8 && n%9 != 0 && n != 64 {
			continue
		}
		turnsRound(t, odd(chance, n), odd(chance, n))
		turnsRound(t, tame(chance, n), tame(chance, n))
	}
}

func turnsRound(t *testing.T, a, b api.Matrix) {
	t.Helper()
	p, _ := matrix.Mul(a, b)
	p, _ = matrix.Adjoint(p)
	first, _ := matrix.Adjoint(a)
	second, _ := matrix.Adjoint(b)
	q, _ := matrix.Mul(second, first)
	wantEqual(t, "the Adjoint of a product", p, q)
}

// P7.8: products of numbers that are so short that nothing is rounded go together in any order.
func TestExactProducts(t *testing.T) {
	chance := rand.New(rand.NewSource(89))
	for n := 1; n <= 8; n++ {
		for range 60 {
			inOrder(t, parts(chance, n, 1024), parts(chance, n, 1024), parts(chance, n, 1024))
			for m := 1; n*m <= 8; m++ {
				mixed(t, parts(chance, n, 1024), parts(chance, m, 1024), parts(chance, n, 1024), parts(chance, m, 1024))
			}
		}
	}
}

func inOrder(t *testing.T, a, b, c api.Matrix) {
	t.Helper()
	ab, _ := matrix.Mul(a, b)
	bc, _ := matrix.Mul(b, c)
	p, _ := matrix.Mul(ab, c)
	q, _ := matrix.Mul(a, bc)
	if !matrix.Equal(p, q) {
		t.Errorf("%d rows: three in two orders", a.N)
	}
	v := c.E[:c.N]
	whole, _ := matrix.Act(ab, v)
	part, _ := matrix.Act(b, v)
	part, e := matrix.Act(a, part)
	if e != api.OK || len(whole) != len(part) {
		t.Fatalf("%d rows: Act: %d", a.N, e)
	}
	for i := range whole {
		wantNumber(t, "Act of a product", unsigned(whole[i]), unsigned(part[i]))
	}
}

func mixed(t *testing.T, a, b, c, d api.Matrix) {
	t.Helper()
	ab, _ := matrix.Kron(a, b)
	cd, _ := matrix.Kron(c, d)
	p, _ := matrix.Mul(ab, cd)
	ac, _ := matrix.Mul(a, c)
	bd, _ := matrix.Mul(b, d)
	q, _ := matrix.Kron(ac, bd)
	if !matrix.Equal(p, q) {
		t.Errorf("Kron of %d and %d rows", a.N, b.N)
	}
}

// P7.8: rows of gates stay Unitary as long as their entries are multiples of 1/1024.
func TestProductsOfUnitaries(t *testing.T) {
	chance := rand.New(rand.NewSource(90))
	kinds := gate.Kinds()
	for range 50 {
		p := unit(8, 1)
		for range 12 {
			k := kinds[chance.Intn(len(kinds))]
			m, _ := gate.Matrix(k)
			m, _ = matrix.Place(m, chance.Perm(3)[:gate.Arity(k)], 3)
			p, _ = matrix.Mul(m, p)
			if short(p) && !matrix.Unitary(p) {
				t.Fatalf("%v", p)
			}
		}
	}
}

func short(m api.Matrix) bool {
	for _, z := range m.E {
		for _, x := range []float64{real(z), imag(z)} {
			if math.Abs(x) > 1 || x*1024 != math.Trunc(x*1024) {
				return false
			}
		}
	}
	return true
}

// P7.4 and P7.8 agree: a placed matrix is a Kron with identities, and placing goes through products.
func TestPlaceAndKron(t *testing.T) {
	chance := rand.New(rand.NewSource(91))
	for n := 1; n <= 6; n++ {
		for q := range n {
			a, b := parts(chance, 2, 1024), parts(chance, 2, 1024)
			placed, _ := matrix.Place(a, []int{q}, n)
			low, _ := matrix.Kron(a, unit(1<<q, 1))
			whole, _ := matrix.Kron(unit(1<<(n-1-q), 1), low)
			wantEqual(t, "Place by Kron", placed, whole)
			other, _ := matrix.Place(b, []int{q}, n)
			p, _ := matrix.Mul(placed, other)
			ab, _ := matrix.Mul(a, b)
			ab, _ = matrix.Place(ab, []int{q}, n)
			wantEqual(t, "Place of a product", p, ab)
		}
	}
}

// FuzzFollows is P7.7 and P7.8, of matrices whose entries come from bytes.
func FuzzFollows(f *testing.F) {
	f.Add([]byte{0, 16, 32, 255, 1, 7, 99, 200}, 2, 3)
	f.Add([]byte{255, 0}, 3, 2)
	f.Add([]byte{}, 1, 1)
	f.Fuzz(func(t *testing.T, l []byte, n, m int) {
		next := -1
		draw := func(unit int) func() float64 {
			return func() float64 {
				next++
				if len(l) == 0 {
					return 0
				}
				word := int(l[next%len(l)])<<8 + int(l[next/2%len(l)])
				return float64(word%(2*unit+1)-unit) / float64(unit)
			}
		}
		rows := 1 + n&7
		small(t, drawn(1+rows%3, draw(16)), drawn(1+rows%3, draw(16)))
		a, b, c := drawn(rows, draw(1024)), drawn(rows, draw(1024)), drawn(rows, draw(1024))
		inOrder(t, a, b, c)
		turnsRound(t, a, b)
		if other := 1 + m&7; rows*other <= 8 {
			mixed(t, a, drawn(other, draw(1024)), c, drawn(other, draw(1024)))
		}
	})
}
