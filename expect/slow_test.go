package expect_test

import (
	"math"
	"math/bits"

	"phasor/api"
	"phasor/gate"
	"phasor/invert"
	"phasor/matrix"
	"phasor/pauli"
	"phasor/tableau"
)

// The chapter a second time: strings letter by letter, sums written out, circuits by their matrices and by layer 14.

// powers are those of i.
var powers = [4]complex128{1, 1i, -1, -1i}

// qubitsOf tells of how many qubits a row of so many is.
func qubitsOf(size int) int { return bits.Len(uint(size)) - 1 }

// unsigned takes the sign of a nought away.
func unsigned(x float64) float64 {
	if x == 0 {
		return 0
	}
	return x
}

// turned is a number times i, so many times.
func turned(z complex128, times int) complex128 {
	for range times {
		z = complex(-imag(z), real(z))
	}
	return z
}

// slowAct lets one letter behind the other do what its matrix does to a basis state.
func slowAct(p api.Pauli, s []complex128) []complex128 {
	l := make([]complex128, len(s))
	for place, z := range s {
		to, turn := place, p.Phase
		for q := range p.N {
			hasX, hasZ, one := p.X>>q&1 == 1, p.Z>>q&1 == 1, place>>q&1 == 1
			if hasX {
				to ^= 1 << q
			}
			switch {
			case hasX && hasZ && one:
				turn += 3
			case hasX && hasZ:
				turn++
			case hasZ && one:
				turn += 2
			}
		}
		z = turned(z, turn%4)
		l[to] = complex(unsigned(real(z)), unsigned(imag(z)))
	}
	return l
}

// product is layer 3's, written out.
func product(a, b complex128) complex128 {
	p := [4]float64{real(a) * real(b), imag(a) * imag(b), real(a) * imag(b), imag(a) * real(b)}
	return complex(p[0]-p[1], p[2]+p[3])
}

// total adds from the first on.
func total(l []complex128) complex128 {
	if len(l) == 0 {
		return 0
	}
	re, im := real(l[0]), imag(l[0])
	for _, z := range l[1:] {
		re += real(z)
		im += imag(z)
	}
	return complex(re, im)
}

func slowDot(a, b []complex128) complex128 {
	var l []complex128
	for k, z := range a {
		l = append(l, product(complex(real(z), -imag(z)), b[k]))
	}
	return total(l)
}

func slowWeight(s []complex128) float64 {
	sum := 0.0
	for k, z := range s {
		squares := [2]float64{real(z) * real(z), imag(z) * imag(z)}
		if k == 0 {
			sum = squares[0] + squares[1]
			continue
		}
		sum += squares[0] + squares[1]
	}
	return sum
}

func slowValue(s []complex128, p api.Pauli) complex128 { return slowDot(s, slowAct(p, s)) }

func slowEnergy(s []complex128, terms []api.Term) float64 {
	var products []float64
	for _, term := range terms {
		products = append(products, term.Coef*real(slowValue(s, term.P)))
	}
	sum := 0.0
	for _, x := range products {
		sum += x
	}
	return sum
}

// slowImage goes amplitude by amplitude.
func slowImage(s []complex128, terms []api.Term) []complex128 {
	var moved [][]complex128
	for _, term := range terms {
		moved = append(moved, slowAct(term.P, s))
	}
	l := make([]complex128, len(s))
	for k := range s {
		var parts []complex128
		for i, term := range terms {
			scaled := [2]float64{term.Coef * real(moved[i][k]), term.Coef * imag(moved[i][k])}
			parts = append(parts, complex(scaled[0], scaled[1]))
		}
		z := total(parts)
		l[k] = complex(unsigned(real(z)), unsigned(imag(z)))
	}
	return l
}

// slowSums is what the calls of terms must answer.
func slowSums(f ofState, s []complex128, terms []api.Term) told {
	switch f.name {
	case "Energy":
		return told{x: slowEnergy(s, terms)}
	case "Image":
		return told{numbers: slowImage(s, terms)}
	}
	l := slowImage(s, terms)
	return told{x: real(slowDot(s, l)), y: slowWeight(l)}
}

// stringOf is the string of a place of a table of n qubits.
func stringOf(m, n int) api.Pauli {
	side := int(math.Pow(2, float64(n)))
	return api.Pauli{N: n, X: uint64(m % side), Z: uint64(m / side)}
}

func slowTable(s []complex128) []float64 {
	var l []float64
	for m := range len(s) * len(s) {
		l = append(l, real(slowValue(s, stringOf(m, qubitsOf(len(s))))))
	}
	return l
}

// slowRebuild asks for each entry by itself, bit by bit.
func slowRebuild(table []float64) told {
	n := qubitsOf(len(table)) / 2
	side := 1 << n
	answer := told{rows: side}
	for r := range side {
		for c := range side {
			var l []complex128
			for z := range side {
				x, turn := r^c, 0
				for q := range n {
					turn += x >> q & 1 * (z >> q & 1)
					turn += 2 * (c >> q & 1) * (z >> q & 1)
				}
				l = append(l, turned(complex(table[x+side*z], 0), turn%4))
			}
			sum, part := total(l), math.Ldexp(1, -n)
			answer.numbers = append(answer.numbers, complex(unsigned(real(sum)*part), unsigned(imag(sum)*part)))
		}
	}
	return answer
}

func slowPurity(table []float64) float64 {
	var squares []float64
	for _, x := range table {
		squares = append(squares, x*x)
	}
	sum := 0.0
	for _, x := range squares {
		sum += x
	}
	return sum * math.Ldexp(1, -qubitsOf(len(table))/2)
}

// whole is a part of an exact number of at most 24 halves, as a whole number of 2^-24.
func whole(x float64) int64 { return int64(x * (1 << 24)) }

// exactValue is a Hermitian string's, in whole numbers of 2^-48: nothing is rounded.
func exactValue(s []complex128, p api.Pauli) (re, im int64) {
	for k, moved := range slowAct(p, s) {
		a, b, c, d := whole(real(s[k])), whole(imag(s[k])), whole(real(moved)), whole(imag(moved))
		re += a*c + b*d
		im += a*d - b*c
	}
	return re, im
}

// stringMatrix is the matrix of a string: the letters' matrices, the highest qubit's first, times the power of i.
func stringMatrix(p api.Pauli) api.Matrix {
	letters := [4][]complex128{{1, 0, 0, 1}, {0, 1, 1, 0}, {1, 0, 0, -1}, {0, -1i, 1i, 0}}
	m := api.Matrix{N: 1, E: []complex128{powers[p.Phase]}}
	for q := p.N - 1; q >= 0; q-- {
		m, _ = matrix.Kron(m, api.Matrix{N: 2, E: letters[p.X>>q&1|p.Z>>q&1<<1]})
	}
	return m
}

// circuitMatrix is the product of the gates' matrices, laid among the circuit's qubits.
func circuitMatrix(c api.Circuit) api.Matrix {
	m, _ := matrix.Identity(1 << c.Qubits)
	for _, op := range c.Ops {
		if op.Kind == api.OpGate {
			g, _ := gate.Matrix(op.Gate)
			g, _ = matrix.Place(g, op.Qubits, c.Qubits)
			m, _ = matrix.Mul(g, m)
		}
	}
	return m
}

// between tells whether two strings' matrices have the matrix u between them: u times the one is the other times u.
func between(u api.Matrix, from, to api.Pauli) bool {
	a, _ := matrix.Mul(u, stringMatrix(from))
	b, _ := matrix.Mul(stringMatrix(to), u)
	return matrix.Equal(a, b)
}

// slowForth puts a string together of X and Z at its qubits, which layer 14 carries through gates: the destabilizers of |0> begin as X at each qubit, its stabilizers as Z there.
func slowForth(c api.Circuit, p api.Pauli) api.Pauli {
	images, _ := tableau.New(c.Qubits)
	for _, op := range c.Ops {
		if op.Kind == api.OpGate {
			images, _ = tableau.Gate(images, op.Gate, op.Qubits)
		}
	}
	behind := api.Pauli{N: p.N, Phase: p.Phase}
	for q := range p.N {
		x, z := p.X>>q&1 == 1, p.Z>>q&1 == 1
		if x && z { // Y is i times X times Z
			behind.Phase = (behind.Phase + 1) % 4
		}
		if x {
			behind, _ = pauli.Mul(behind, images.Destab[q])
		}
		if z {
			behind, _ = pauli.Mul(behind, images.Stab[q])
		}
	}
	return behind
}

// slowBack goes forth through the inverse.
func slowBack(c api.Circuit, p api.Pauli) api.Pauli {
	d, _ := invert.Inverse(c)
	return slowForth(d, p)
}
