package gate_test

import (
	"math"
	"math/big"
	"strings"
	"testing"

	"phasor/api"
)

// line is a line of the chapter's table; what the chapter says in words is written out as a matrix by hand. A point is a nought, + and - are a half and its negative.
type line struct {
	name             string
	qubits, controls int
	rows             string
}

func lines() []line {
	return []line{
		{"id", 1, 0, "1 . / . 1"},
		{"x", 1, 0, ". 1 / 1 ."},
		{"y", 1, 0, ". -i / i ."},
		{"z", 1, 0, "1 . / . -1"},
		{"s", 1, 0, "1 . / . i"},
		{"sdg", 1, 0, "1 . / . -i"},
		{"sx", 1, 0, "h k / k h"},
		{"sxdg", 1, 0, "k h / h k"},
		{"sy", 1, 0, "h -h / h h"},
		{"sydg", 1, 0, "k k / -k k"},
		{"cx", 2, 1, "1 . . . / . . . 1 / . . 1 . / . 1 . ."},
		{"cy", 2, 1, "1 . . . / . . . -i / . . 1 . / . i . ."},
		{"cz", 2, 0, "1 . . . / . 1 . . / . . 1 . / . . . -1"},
		{"swap", 2, 0, "1 . . . / . . 1 . / . 1 . . / . . . 1"},
		{"iswap", 2, 0, "1 . . . / . . i . / . i . . / . . . 1"},
		{"iswapdg", 2, 0, "1 . . . / . . -i . / . -i . . / . . . 1"},
		{"hh", 2, 0, "+ + + + / + - + - / + + - - / + - - +"},
		{"ccx", 3, 2, "1 . . . . . . . / . 1 . . . . . . / . . 1 . . . . . / . . . . . . . 1 / . . . . 1 . . . / . . . . . 1 . . / . . . . . . 1 . / . . . 1 . . . ."},
		{"ccz", 3, 0, "1 . . . . . . . / . 1 . . . . . . / . . 1 . . . . . / . . . 1 . . . . / . . . . 1 . . . / . . . . . 1 . . / . . . . . . 1 . / . . . . . . . -1"},
		{"cswap", 3, 1, "1 . . . . . . . / . 1 . . . . . . / . . 1 . . . . . / . . . . . 1 . . / . . . . 1 . . . / . . . 1 . . . . / . . . . . . 1 . / . . . . . . . 1"},
	}
}

// entries reads a line's matrix. The numbers are put together by complex, which signs no nought.
func (l line) entries() []complex128 {
	as := map[string]complex128{
		".": complex(0, 0), "1": complex(1, 0), "-1": complex(-1, 0), "i": complex(0, 1), "-i": complex(0, -1),
		"h": complex(0.5, 0.5), "-h": complex(-0.5, -0.5), "k": complex(0.5, -0.5), "-k": complex(-0.5, 0.5),
		"+": complex(0.5, 0), "-": complex(-0.5, 0),
	}
	var list []complex128
	for _, word := range strings.Fields(strings.ReplaceAll(l.rows, "/", " ")) {
		z, ok := as[word]
		if !ok {
			panic(word)
		}
		list = append(list, z)
	}
	return list
}

// lineOf is the line of a right kind.
func lineOf(k api.GateKind) line { return lines()[k-1] }

// noKinds are numbers of no kind.
func noKinds() []api.GateKind {
	return []api.GateKind{0, -1, -2, -20, 21, 22, 31, 1 << 32, 1<<32 + 1, math.MaxInt, math.MinInt, math.MinInt + 1}
}

// kindsOf are all right kinds of so many qubits, by the lines.
func kindsOf(qubits int) []api.GateKind {
	var list []api.GateKind
	for i, l := range lines() {
		if l.qubits == qubits {
			list = append(list, api.GateKind(i+1))
		}
	}
	return list
}

func allKinds() []api.GateKind {
	return append(append(kindsOf(1), kindsOf(2)...), kindsOf(3)...)
}

// whole is a complex number of whole parts: matrices are reckoned with in these, counted in halves of halves, so that no float is asked.
type whole struct{ re, im int64 }

// square is a matrix whose numbers stand over two to the power below.
type square struct {
	n     int
	below uint
	e     []whole
}

// squareOf counts the entries of a matrix in halves.
func squareOf(e []complex128) square {
	n := 1
	for n*n < len(e) {
		n *= 2
	}
	s := square{n, 1, make([]whole, n*n)}
	for i, z := range e {
		s.e[i] = whole{int64(2 * real(z)), int64(2 * imag(z))}
	}
	return s
}

// times has b's numbers done first.
func (a square) times(b square) square {
	p := square{a.n, a.below + b.below, make([]whole, a.n*a.n)}
	for i := range a.n {
		for k := range a.n {
			x := a.e[a.n*i+k]
			if x == (whole{}) {
				continue
			}
			for j := range a.n {
				y, at := b.e[a.n*k+j], &p.e[a.n*i+j]
				at.re += x.re*y.re - x.im*y.im
				at.im += x.re*y.im + x.im*y.re
			}
		}
	}
	return p
}

// is tells whether two matrices are one: over whatever powers, their fractions are.
func (a square) is(b square) bool {
	if a.n != b.n {
		return false
	}
	same := func(x int64, below uint, y int64, other uint) bool {
		return new(big.Rat).SetFrac64(x, 1<<below).Cmp(new(big.Rat).SetFrac64(y, 1<<other)) == 0
	}
	for i := range a.e {
		if a.below == b.below {
			if a.e[i] != b.e[i] {
				return false
			}
			continue
		}
		if !same(a.e[i].re, a.below, b.e[i].re, b.below) || !same(a.e[i].im, a.below, b.e[i].im, b.below) {
			return false
		}
	}
	return true
}

// floats are its numbers as complex ones.
func (a square) floats() []complex128 {
	list := make([]complex128, len(a.e))
	for i, x := range a.e {
		scale := float64(int64(1) << a.below)
		list[i] = complex(float64(x.re)/scale, float64(x.im)/scale)
	}
	return list
}

func unit(n int) square {
	s := square{n, 0, make([]whole, n*n)}
	for i := range n {
		s.e[n*i+i] = whole{1, 0}
	}
	return s
}

// adjoint is turned about its diagonal and conjugate.
func (a square) adjoint() square {
	s := square{a.n, a.below, make([]whole, len(a.e))}
	for i := range a.n {
		for j := range a.n {
			x := a.e[a.n*j+i]
			s.e[a.n*i+j] = whole{x.re, -x.im}
		}
	}
	return s
}

// onto lays a matrix onto all of n qubits: entries are those of the bits at its own qubits, where all other bits are the same.
func (a square) onto(qubits []int, n int) square {
	size := 1 << n
	s := square{size, a.below, make([]whole, size*size)}
	index := func(place int) (own, others int) {
		others = place
		for t, q := range qubits {
			if place&(1<<q) != 0 {
				own += 1 << t
				others -= 1 << q
			}
		}
		return own, others
	}
	for i := range size {
		for j := range size {
			row, left := index(i)
			column, right := index(j)
			if left == right {
				s.e[size*i+j] = a.e[a.n*row+column]
			}
		}
	}
	return s
}

// sameBits asks the library, not the package under test.
func sameBits(a, b complex128) bool {
	return math.Float64bits(real(a)) == math.Float64bits(real(b)) && math.Float64bits(imag(a)) == math.Float64bits(imag(b))
}

func wantMatrix(t *testing.T, what string, got api.Matrix, entries []complex128) {
	t.Helper()
	if len(got.E) != len(entries) || got.N*got.N != len(entries) {
		t.Errorf("%s: %d rows, %d entries, not %d", what, got.N, len(got.E), len(entries))
		return
	}
	for i, z := range entries {
		if !sameBits(got.E[i], z) {
			t.Errorf("%s: entry %d is %v, not %v", what, i, got.E[i], z)
		}
	}
}
