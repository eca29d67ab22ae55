package pauli_test

import (
	"math"

	"phasor/api"
)

// What strings are, written a second time: as matrices, and letter by letter.

// letterMatrix is the chapter's matrix of a letter, row behind row.
func letterMatrix(letter byte) [4]complex128 {
	switch letter {
	case 'X':
		return [4]complex128{0, 1, 1, 0}
	case 'Y':
		return [4]complex128{0, -1i, 1i, 0}
	case 'Z':
		return [4]complex128{1, 0, 0, -1}
	}
	return [4]complex128{1, 0, 0, 1}
}

// stringMatrix is a string's matrix: the tensor product of its letters', times i to the power of its phase. Its numbers are whole, so that nothing is rounded.
func stringMatrix(p api.Pauli) api.Matrix {
	n := 1 << p.N
	m := api.Matrix{N: n, E: make([]complex128, n*n)}
	for i := range m.E {
		row, column := i/n, i%n
		z := [4]complex128{1, 1i, -1, -1i}[p.Phase]
		for q, letter := range []byte(lettersOf(p)) {
			z *= letterMatrix(letter)[2*(row>>q&1)+column>>q&1]
		}
		m.E[i] = z
	}
	return m
}

// plainProduct multiplies matrices of numbers that are few halves, so that nothing is rounded.
func plainProduct(l ...api.Matrix) api.Matrix {
	a := l[0]
	for _, b := range l[1:] {
		p := api.Matrix{N: a.N, E: make([]complex128, len(a.E))}
		for i := range a.N {
			for k := range a.N {
				x := a.E[a.N*i+k]
				if x == 0 {
					continue
				}
				for j := range a.N {
					p.E[a.N*i+j] += x * b.E[a.N*k+j]
				}
			}
		}
		a = p
	}
	return a
}

// equalMatrix compares but for the signs of noughts.
func equalMatrix(a, b api.Matrix) bool {
	if a.N != b.N || len(a.E) != len(b.E) {
		return false
	}
	for i := range a.E {
		if a.E[i] != b.E[i] {
			return false
		}
	}
	return true
}

// slowMul multiplies letter by letter, by the table that the letters' matrices have.
func slowMul(a, b api.Pauli) api.Pauli {
	table := map[string]struct {
		letter byte
		phase  int
	}{
		"XY": {'Z', 1}, "YZ": {'X', 1}, "ZX": {'Y', 1},
		"YX": {'Z', 3}, "ZY": {'X', 3}, "XZ": {'Y', 3},
	}
	left, right := lettersOf(a), lettersOf(b)
	l := make([]byte, len(left))
	phase := a.Phase + b.Phase
	for q := range l {
		switch {
		case left[q] == 'I':
			l[q] = right[q]
		case right[q] == 'I':
			l[q] = left[q]
		case left[q] == right[q]:
			l[q] = 'I'
		default:
			both := table[left[q:q+1]+right[q:q+1]]
			l[q] = both.letter
			phase += both.phase
		}
	}
	return of(phase%4, string(l))
}

// slowAct lets one letter behind the other do what its matrix does to a basis state.
func slowAct(p api.Pauli, s []complex128) []complex128 {
	l := make([]complex128, len(s))
	for place, z := range s {
		to, turn := place, p.Phase
		for q, letter := range lettersOf(p) {
			one := place>>q&1 == 1
			if letter == 'X' || letter == 'Y' {
				to ^= 1 << q
			}
			switch {
			case letter == 'Z' && one:
				turn += 2
			case letter == 'Y' && one:
				turn += 3
			case letter == 'Y':
				turn++
			}
		}
		z = turned(z, turn%4)
		l[to] = complex(unsigned(real(z)), unsigned(imag(z)))
	}
	return l
}

// stringOf is the string of a number among those of n qubits.
func stringOf(i, n int) api.Pauli {
	side := int(math.Pow(2, float64(n)))
	return api.Pauli{N: n, X: uint64(i % side), Z: uint64(i / side)}
}

// total adds from the first on.
func total(l []complex128) complex128 {
	re, im := real(l[0]), imag(l[0])
	for _, z := range l[1:] {
		re += real(z)
		im += imag(z)
	}
	return complex(re, im)
}

// times is layer 3's product, written out: the language's own might leave a rounding out.
func times(a, b complex128) complex128 {
	p := [4]float64{real(a) * real(b), imag(a) * imag(b), real(a) * imag(b), imag(a) * real(b)}
	return complex(p[0]-p[1], p[2]+p[3])
}

// slowSpectrum asks for each number by itself: which entry of a column comes to the diagonal, how it is turned, and their sum.
func slowSpectrum(m api.Matrix) []complex128 {
	n := int(math.Log2(float64(m.N)))
	var l []complex128
	for i := range m.N * m.N {
		var terms []complex128
		for k := range m.N {
			column := make([]complex128, m.N)
			for row := range column {
				column[row] = m.E[row*m.N+k]
			}
			terms = append(terms, slowAct(stringOf(i, n), column)[k])
		}
		sum, part := total(terms), 1/float64(m.N)
		l = append(l, complex(real(sum)*part, imag(sum)*part))
	}
	return l
}

// slowCompose asks for each entry by itself.
func slowCompose(l []complex128) api.Matrix {
	n := int(math.Log2(float64(len(l)))) / 2
	m := api.Matrix{N: 1 << n}
	for row := range m.N {
		for column := range m.N {
			basis := make([]complex128, m.N)
			basis[column] = 1
			var terms []complex128
			for i, much := range l {
				terms = append(terms, times(much, slowAct(stringOf(i, n), basis)[row]))
			}
			m.E = append(m.E, total(terms))
		}
	}
	return m
}
