package density_test

import (
	"phasor/api"
	"phasor/apply"
)

// The chapter a second time: sums and products written out, places bit by bit.

// slow is what a call must answer that does not refuse.
func slow(name string, g given) told {
	switch name {
	case "From":
		return told{m: slowFrom(g.s)}
	case "Mix":
		return told{m: slowMix(g.l)}
	case "Keep":
		return told{m: slowKeep(g.m, g.qubits)}
	case "Gate":
		return told{m: slowGate(g.m, g.kind, g.qubits)}
	case "Kraus":
		return told{m: slowKraus(g.m, g.l)}
	case "Pauli":
		return told{z: slowPauli(g.m, g.p)}
	case "Fidelity":
		return told{z: slowFidelity(g.m, g.s)}
	case "Purity":
		return told{x: slowPurity(g.m)}
	case "Weights":
		return told{floats: slowWeights(g.m)}
	case "Hermitian":
		return told{is: slowHermitian(g.m)}
	case "Product":
		return told{is: slowProduct(g.s, g.qubits)}
	}
	return told{n: qubitsOf(g.m.N)}
}

// qubitsOf tells of how many qubits so many places are.
func qubitsOf(size int) int {
	n := 0
	for 1<<n < size {
		n++
	}
	return n
}

// unsigned takes the signs of noughts away.
func unsigned(z complex128) complex128 {
	parts := [2]float64{real(z), imag(z)}
	for i, x := range parts {
		if x == 0 {
			parts[i] = 0
		}
	}
	return complex(parts[0], parts[1])
}

func conjugate(z complex128) complex128 { return complex(real(z), -imag(z)) }

// times is layer 3's product, written out.
func times(a, b complex128) complex128 {
	p := [4]float64{real(a) * real(b), imag(a) * imag(b), real(a) * imag(b), imag(a) * real(b)}
	return complex(p[0]-p[1], p[2]+p[3])
}

// total adds from the first on.
func total(l []complex128) complex128 {
	if len(l) == 0 {
		return 0
	}
	re, im := real(l[0]), imag(l[0])
	for _, z := range l[1:] {
		re += real(z)
		im += imag(z)
	}
	return complex(re, im)
}

// indexAt is the number whose bit t is the place's bit at the t-th of some qubits.
func indexAt(place int, qubits []int) int {
	index := 0
	for t, q := range qubits {
		if place>>q%2 == 1 {
			index += 1 << t
		}
	}
	return index
}

func slowFrom(s []complex128) api.Matrix {
	m := blank(len(s))
	for i, x := range s {
		for j, y := range s {
			m.E[len(s)*i+j] = times(x, conjugate(y))
		}
	}
	return m
}

func slowMix(l []api.Matrix) api.Matrix {
	m := blank(l[0].N)
	for k := range m.E {
		var terms []complex128
		for _, one := range l {
			terms = append(terms, one.E[k])
		}
		m.E[k] = total(terms)
	}
	return m
}

// slowKeep goes over all entries, place by place, and puts each where it belongs: those that come to one entry come in the order of the other qubits' places, as both rise together.
func slowKeep(m api.Matrix, qubits []int) api.Matrix {
	others := rest(qubits, qubitsOf(m.N))
	terms := make([][]complex128, 1<<(2*len(qubits)))
	for row := range m.N {
		for column := range m.N {
			if indexAt(row, others) == indexAt(column, others) {
				to := indexAt(row, qubits)<<len(qubits) + indexAt(column, qubits)
				terms[to] = append(terms[to], m.E[m.N*row+column])
			}
		}
	}
	kept := blank(1 << len(qubits))
	for k, l := range terms {
		kept.E[k] = total(l)
	}
	return kept
}

func slowGate(m api.Matrix, kind api.GateKind, qubits []int) api.Matrix {
	behind := blank(m.N)
	for column := range m.N {
		var l []complex128
		for row := range m.N {
			l = append(l, m.E[m.N*row+column])
		}
		l, _ = apply.Hands(l, kind, qubits, 2)
		for row, z := range l {
			behind.E[m.N*row+column] = z
		}
	}
	for row := range m.N {
		var l []complex128
		for column := range m.N {
			l = append(l, conjugate(behind.E[m.N*row+column]))
		}
		l, _ = apply.Hands(l, kind, qubits, 2)
		for column, z := range l {
			behind.E[m.N*row+column] = unsigned(conjugate(z))
		}
	}
	return behind
}

func slowTimes(a, b api.Matrix) api.Matrix {
	m := blank(a.N)
	for row := range a.N {
		for column := range a.N {
			var terms []complex128
			for k := range a.N {
				terms = append(terms, times(a.E[a.N*row+k], b.E[a.N*k+column]))
			}
			m.E[a.N*row+column] = total(terms)
		}
	}
	return m
}

func slowAdjoint(a api.Matrix) api.Matrix {
	m := blank(a.N)
	for row := range a.N {
		for column := range a.N {
			m.E[a.N*row+column] = conjugate(a.E[a.N*column+row])
		}
	}
	return m
}

func slowKraus(m api.Matrix, l []api.Matrix) api.Matrix {
	var parts []api.Matrix
	for _, k := range l {
		parts = append(parts, slowTimes(slowTimes(k, m), slowAdjoint(k)))
	}
	return slowMix(parts)
}

// slowPauli asks for each entry of the diagonal of the product by itself: the row k of the string's matrix has one entry, a power of i, in the column with the bits of X turned.
func slowPauli(m api.Matrix, p api.Pauli) complex128 {
	var terms []complex128
	for k := range m.N {
		column, turn := k, p.Phase
		for q := range p.N {
			hasX, hasZ := p.X>>q%2 == 1, p.Z>>q%2 == 1
			if hasX {
				column ^= 1 << q
			}
			one := column>>q%2 == 1
			switch {
			case hasX && hasZ && one: // Y takes 1 to -i times 0
				turn += 3
			case hasX && hasZ: // and 0 to i times 1
				turn++
			case hasZ && one:
				turn += 2
			}
		}
		z := m.E[m.N*column+k]
		for range turn % 4 {
			z = complex(-imag(z), real(z))
		}
		terms = append(terms, unsigned(z))
	}
	return total(terms)
}

func slowPurity(m api.Matrix) float64 {
	sum := 0.0
	for k, z := range m.E {
		squares := [2]float64{real(z) * real(z), imag(z) * imag(z)}
		square := squares[0] + squares[1]
		if k == 0 {
			sum = square
		} else {
			sum += square
		}
	}
	return sum
}

func slowHermitian(m api.Matrix) bool {
	for i := range m.N {
		for j := range m.N {
			a, b := m.E[m.N*j+i], m.E[m.N*i+j]
			if real(a) != real(b) || imag(a) != -imag(b) {
				return false
			}
		}
	}
	return true
}

func slowWeights(m api.Matrix) []float64 {
	var l []float64
	for k := 0; k < len(m.E); k += m.N + 1 {
		l = append(l, real(m.E[k]))
	}
	return l
}

// slowProduct goes over all pairs of places: s(i, k) and s(j, l) stand at these, and s(i, l) and s(j, k) at the two where the others' bits are exchanged.
func slowProduct(s []complex128, qubits []int) bool {
	kept := 0
	for _, q := range qubits {
		kept |= 1 << q
	}
	for a := range s {
		for b := range s {
			if times(s[a], s[b]) != times(s[a&kept|b&^kept], s[b&kept|a&^kept]) {
				return false
			}
		}
	}
	return true
}

func slowFidelity(m api.Matrix, s []complex128) complex128 {
	var terms []complex128
	for i := range s {
		var l []complex128
		for k, z := range s {
			l = append(l, times(m.E[m.N*i+k], z))
		}
		terms = append(terms, times(conjugate(s[i]), total(l)))
	}
	return total(terms)
}
