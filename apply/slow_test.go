package apply_test

import (
	"math"

	"phasor/api"
)

// What a gate does, written a second time: each new amplitude is asked for by itself, from chapter 6's words and chapter 10's formulas.

// slowGate is the state behind a gate.
func slowGate(s []complex128, k api.GateKind, qubits []int) []complex128 {
	return slowGroups(s, qubits, func(x []complex128, j int) complex128 { return slowAmplitude(k, x, j) })
}

// slowGroups is the state whose amplitude at each place is one that its group comes to.
func slowGroups(s []complex128, qubits []int, come func(x []complex128, j int) complex128) []complex128 {
	l := make([]complex128, len(s))
	for place := range s {
		own := 0
		x := make([]complex128, int(math.Pow(2, float64(len(qubits)))))
		for j := range x {
			at := place
			for t, q := range qubits {
				if bit(at, q) != bit(j, t) {
					at ^= 1 << q
				}
			}
			x[j] = s[at]
			if at == place {
				own = j
			}
		}
		l[place] = come(x, own)
	}
	return l
}

func bit(x, q int) int { return x / (1 << q) % 2 }

// slowAmplitude is the new amplitude at an index: of monomial gates that one which goes there.
func slowAmplitude(k api.GateKind, x []complex128, index int) complex128 {
	switch k {
	case api.GateV, api.GateVdg, api.GateW, api.GateWdg:
		return slowRoot(k, x[0], x[1], index)
	case api.GateHH:
		return slowBoth(x, index)
	}
	for from := range x {
		to, turn := slowMove(k, from)
		if to != index {
			continue
		}
		z := x[from]
		if from == to && turn == 0 {
			return z
		}
		for range turn {
			z = complex(-imag(z), real(z))
		}
		return complex(unsigned(real(z)), unsigned(imag(z)))
	}
	panic("nothing goes there")
}

// slowMove tells where a basis state goes, and how often it is turned.
func slowMove(k api.GateKind, j int) (int, int) {
	first, second, third := bit(j, 0), bit(j, 1), bit(j, 2)
	all := func(l ...int) bool { return !holds(l, 0) }
	swapped := second + 2*first
	switch k {
	case api.GateX:
		return 1 - j, 0
	case api.GateY:
		return 1 - j, 1 + 2*j
	case api.GateZ:
		return j, 2 * first
	case api.GateS:
		return j, first
	case api.GateSdg:
		return j, 3 * first
	case api.GateCX:
		if all(first) {
			return j ^ 2, 0
		}
	case api.GateCY:
		if all(first) {
			return j ^ 2, 1 + 2*second
		}
	case api.GateCZ:
		if all(first, second) {
			return j, 2
		}
	case api.GateSwap:
		return swapped, 0
	case api.GateISw:
		return swapped, first ^ second
	case api.GateISwd:
		return swapped, 3 * (first ^ second)
	case api.GateCCX:
		if all(first, second) {
			return j ^ 4, 0
		}
	case api.GateCCZ:
		if all(first, second, third) {
			return j, 2
		}
	case api.GateCSw:
		if all(first) {
			return 1 + 2*third + 4*second, 0
		}
	}
	return j, 0
}

// slowRoot is the chapter's table.
func slowRoot(k api.GateKind, x, y complex128, index int) complex128 {
	sre, sim := real(x)+real(y), imag(x)+imag(y)
	dre, dim := real(x)-real(y), imag(x)-imag(y)
	var two [2][2]float64
	switch k {
	case api.GateV:
		two = [2][2]float64{{(sre - dim) / 2, (sim + dre) / 2}, {(sre + dim) / 2, (sim - dre) / 2}}
	case api.GateVdg:
		two = [2][2]float64{{(sre + dim) / 2, (sim - dre) / 2}, {(sre - dim) / 2, (sim + dre) / 2}}
	case api.GateW:
		two = [2][2]float64{{(dre - dim) / 2, (dre + dim) / 2}, {(sre - sim) / 2, (sre + sim) / 2}}
	case api.GateWdg:
		two = [2][2]float64{{(sre + sim) / 2, (sim - sre) / 2}, {-((dre + dim) / 2), (dre - dim) / 2}}
	}
	return complex(unsigned(two[index][0]), unsigned(two[index][1]))
}

// slowBoth is hh's formula, part by part.
func slowBoth(x []complex128, index int) complex128 {
	part := func(l [4]float64) float64 {
		a, b, c, e := l[0]+l[1], l[0]-l[1], l[2]+l[3], l[2]-l[3]
		return unsigned([4]float64{a + c, b + e, a - c, b - e}[index] / 2)
	}
	return complex(
		part([4]float64{real(x[0]), real(x[1]), real(x[2]), real(x[3])}),
		part([4]float64{imag(x[0]), imag(x[1]), imag(x[2]), imag(x[3])}))
}

// unsigned takes the sign of a nought away.
func unsigned(x float64) float64 {
	if x == 0 {
		return 0
	}
	return x
}

// slowMatrix is the state behind a matrix: sums of products from the first on, each rounded.
func slowMatrix(s []complex128, m api.Matrix, qubits []int) []complex128 {
	return slowGroups(s, qubits, func(x []complex128, row int) complex128 {
		var re, im float64
		for k, z := range x {
			w := m.E[row*m.N+k]
			p := [4]float64{real(w) * real(z), imag(w) * imag(z), real(w) * imag(z), imag(w) * real(z)}
			if k == 0 {
				re, im = p[0]-p[1], p[2]+p[3]
			} else {
				re, im = re+(p[0]-p[1]), im+(p[2]+p[3])
			}
		}
		return complex(unsigned(re), unsigned(im))
	})
}
