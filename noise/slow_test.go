package noise_test

import (
	"math/big"
	"strings"
	"sync"

	"phasor/api"
	"phasor/circuit"
	"phasor/gate"
	"phasor/matrix"
)

// slow is the chapter, written a second time: strings are rows of letters, what gates do to them is asked of the gates' matrices, floats are rounded from exact ones.
func slow(name string, g given) (told, api.Errno) {
	if _, e := circuit.Check(g.c); e != api.OK && name != "Pass" && name != "Numbers" {
		if name == "Faults" {
			return told{}, api.OK
		}
		return told{}, api.ErrCircuit
	}
	switch name {
	case "Draw":
		return slowDraw(g.c, g.p, g.us)
	case "Numbers":
		return slowNumbers(g.values)
	case "Pass":
		return slowPass(g)
	case "Faults":
		return told{faults: slowFaults(g.c)}, api.OK
	case "Blind":
		return slowBlind(g.c)
	}
	if !slowFit(g.c, g.slips) {
		return told{}, api.ErrNoise
	}
	switch {
	case name == "Insert":
		return slowInsert(g.c, g.slips)
	case name == "Carry" && !slowCarries(g.c):
		return told{}, api.ErrFrame
	case name == "Carry":
		return told{frame: slowCarry(g.c, g.slips)}, api.OK
	}
	return told{}, api.OK
}

// slowFit is Check, but for the circuit.
func slowFit(c api.Circuit, slips []api.Slip) bool {
	for i, s := range slips {
		p := s.P
		if s.After < 0 || s.After > len(c.Ops) || i > 0 && slips[i-1].After > s.After || p.N != c.Qubits || p.Phase < 0 || p.Phase > 3 {
			return false
		}
		for q := p.N; q < 64; q++ {
			if p.X/(1<<q)%2 == 1 || p.Z/(1<<q)%2 == 1 {
				return false
			}
		}
	}
	return true
}

// rowOf is a string's letters.
func rowOf(p api.Pauli) []byte {
	row := []byte{}
	for q := range p.N {
		row = append(row, "IXZY"[p.X>>q%2+2*(p.Z>>q%2)])
	}
	return row
}

func slowInsert(c api.Circuit, slips []api.Slip) (told, api.Errno) {
	d := of(c.Qubits, c.Bits)
	for k := range len(c.Ops) + 1 {
		for _, s := range slips {
			if s.After != k {
				continue
			}
			for q, letter := range rowOf(s.P) {
				switch letter {
				case 'X':
					d.Ops = append(d.Ops, do(api.GateX, q))
				case 'Y':
					d.Ops = append(d.Ops, do(api.GateY, q))
				case 'Z':
					d.Ops = append(d.Ops, do(api.GateZ, q))
				}
			}
		}
		if k < len(c.Ops) {
			d.Ops = append(d.Ops, c.Ops[k])
		}
	}
	if len(d.Ops) > 4096 {
		return told{}, api.ErrNoise
	}
	return told{c: d}, api.OK
}

func slowDraw(c api.Circuit, p float64, us []float64) (told, api.Errno) {
	if p != p || p < 0 || p > 1 {
		return told{}, api.ErrNoise
	}
	var l []api.Slip
	n := 0
	for k, op := range c.Ops {
		for _, q := range op.Qubits {
			if op.Kind != api.OpGate {
				break
			}
			if n >= len(us) {
				return told{}, api.ErrNoise
			}
			u := us[n]
			n++
			if u != u || u < 0 || u >= 1 {
				return told{}, api.ErrNoise
			}
			if u >= p {
				continue
			}
			s := api.Slip{After: k + 1, P: api.Pauli{N: c.Qubits}}
			switch {
			case roundedProduct(u, 3) < p:
				s.P.X = 1 << q
			case roundedProduct(u, 1.5) < p:
				s.P.Z = 1 << q
			default:
				s.P.X, s.P.Z = 1<<q, 1<<q
			}
			l = append(l, s)
		}
	}
	return told{slips: l, n: n}, api.OK
}

// roundedProduct is the exact product, rounded once.
func roundedProduct(a, b float64) float64 {
	x := new(big.Float).SetPrec(200).SetFloat64(a)
	x.Mul(x, new(big.Float).SetFloat64(b))
	f, _ := x.Float64()
	return f
}

func slowNumbers(values []int) (told, api.Errno) {
	var us []float64
	for _, v := range values {
		if v != 0 && v != 1 {
			return told{}, api.ErrNoise
		}
		us = append(us, []float64{1 - 1/float64(1<<53), 0}[v])
	}
	return told{floats: us}, api.OK
}

// slowCarries tells whether no gate is in a frame's way.
func slowCarries(c api.Circuit) bool {
	for _, op := range c.Ops {
		if op.Kind == api.OpGate && (op.Gate > api.GateHH || op.If >= 0 && op.Gate > api.GateZ) {
			return false
		}
	}
	return true
}

func slowCarry(c api.Circuit, slips []api.Slip) api.Frame {
	f := []byte(strings.Repeat("I", c.Qubits))
	bits, log := make([]bool, c.Bits), []bool{}
	for k := 0; ; k++ {
		for _, s := range slips {
			if s.After == k {
				multiply(f, rowOf(s.P))
			}
		}
		if k == len(c.Ops) {
			return api.Frame{P: stringOf(f), Bits: bits, Log: log}
		}
		op := c.Ops[k]
		q := op.Qubits[0]
		switch {
		case op.Kind == api.OpMeasure:
			bits[op.Bit] = f[q] == 'X' || f[q] == 'Y'
			log = append(log, bits[op.Bit])
		case op.Kind == api.OpReset:
			log = append(log, f[q] == 'X' || f[q] == 'Y')
			f[q] = 'I'
		case op.Kind == api.OpGate && op.If == -1:
			slowThrough(f, op)
		case op.Kind == api.OpGate && bits[op.If]:
			f[q] = productOf(f[q], "-IXYZ"[op.Gate])
		}
	}
}

// multiply multiplies one row of letters with another, but for the phase.
func multiply(f, by []byte) {
	for q := range f {
		f[q] = productOf(f[q], by[q])
	}
}

// productOf is the letter of a product: that of a letter and itself is I, that of two others the third.
func productOf(a, b byte) byte {
	switch {
	case a == b:
		return 'I'
	case a == 'I':
		return b
	case b == 'I':
		return a
	}
	return strings.Trim("XYZ", string([]byte{a, b}))[0]
}

// stringOf is the string of letters.
func stringOf(row []byte) api.Pauli {
	return read("+" + string(row))
}

// slowThrough carries the letters at a gate's qubits.
func slowThrough(f []byte, op api.Op) {
	var letters []byte
	for _, q := range op.Qubits {
		letters = append(letters, f[q])
	}
	image := imageOf(op.Gate, string(letters))
	for t, q := range op.Qubits {
		f[q] = image[t]
	}
}

// asked keeps what has been asked of the matrices.
var asked sync.Map

type question struct {
	kind    api.GateKind
	letters string
}

// imageOf is what a gate makes of letters at its qubits: those whose matrix is a multiple of U times theirs times U adjoint.
func imageOf(kind api.GateKind, letters string) string {
	if known, ok := asked.Load(question{kind, letters}); ok {
		return known.(string)
	}
	u, _ := gate.Matrix(kind)
	back, _ := matrix.Adjoint(u)
	m, _ := matrix.Mul(u, letterMatrix(letters))
	m, _ = matrix.Mul(m, back)
	found := ""
	for i := range 1 << (2 * len(letters)) {
		row := "IXYZ"[i%4:][:1]
		if len(letters) == 2 {
			row += "IXYZ"[i/4:][:1]
		}
		if matrix.Phase(m, letterMatrix(row)) >= 0 {
			found += row
		}
	}
	if len(found) != len(letters) {
		panic("no image: " + letters)
	}
	asked.Store(question{kind, letters}, found)
	return found
}

// letterMatrix is the matrix of one letter or of two, the first of which is at the lowest bit.
func letterMatrix(letters string) api.Matrix {
	l := map[byte]api.Matrix{'I': rows(1, 0, 0, 1), 'X': rows(0, 1, 1, 0), 'Y': rows(0, -1i, 1i, 0), 'Z': rows(1, 0, 0, -1)}
	m := l[letters[0]]
	if len(letters) == 2 {
		m, _ = matrix.Kron(l[letters[1]], m)
	}
	return m
}

func slowFaults(c api.Circuit) []fault {
	var l []fault
	if !slowCarries(c) {
		return l
	}
	for k, op := range c.Ops {
		if op.Kind == api.OpMeasure || op.Kind == api.OpBarrier {
			continue
		}
		for _, q := range op.Qubits {
			for _, letter := range "XYZ" {
				row := []byte(strings.Repeat("I", c.Qubits))
				row[q] = byte(letter)
				s := api.Slip{After: k + 1, P: stringOf(row)}
				l = append(l, fault{s, slowCarry(c, []api.Slip{s})})
			}
		}
	}
	return l
}

func slowBlind(c api.Circuit) (told, api.Errno) {
	if !slowCarries(c) {
		return told{}, api.ErrFrame
	}
	var l []api.Slip
	for _, x := range slowFaults(c) {
		seen := false
		for _, turned := range x.frame.Log {
			seen = seen || turned
		}
		if !seen && (x.frame.P.X != 0 || x.frame.P.Z != 0) {
			l = append(l, x.slip)
		}
	}
	return told{slips: l}, api.OK
}

// slowPass takes a float for each part.
func slowPass(g given) (told, api.Errno) {
	n := g.m.N
	if n != 1 && n != 2 && n != 4 && n != 8 && n != 16 && n != 32 && n != 64 || len(g.m.E) != n*n {
		return told{}, api.ErrShape
	}
	if g.qubit < 0 || g.qubit > 5 || 1<<g.qubit >= n || g.k < 1 || g.k > 5 || g.halves < 0 || g.halves > 20 {
		return told{}, api.ErrNoise
	}
	q := 1.0
	for range g.halves {
		q /= 2
	}
	m := blank(n)
	for r := range n {
		for c := range n {
			a, b := product(g.m.E[n*r+c], complex(1-q, 0)), product(complex(q, 0), slowChannel(g.m, r, c, 1<<g.qubit, g.k))
			re, im := real(a)+real(b), imag(a)+imag(b)
			m.E[n*r+c] = complex(re+0, im+0)
		}
	}
	return told{m: m}, api.OK
}

func product(a, b complex128) complex128 {
	p, q, r, s := real(a)*real(b), imag(a)*imag(b), real(a)*imag(b), imag(a)*real(b)
	return complex(p-q, r+s)
}

// slowChannel is the entry of a channel's matrix; w is the weight of the qubit's bit in a place.
func slowChannel(m api.Matrix, r, c, w int, k api.Channel) complex128 {
	rowBit, columnBit := r/w%2, c/w%2
	low, high := m.N*(r-w*rowBit)+c-w*columnBit, m.N*(r-w*rowBit+w)+c-w*columnBit+w
	sumRe, sumIm := real(m.E[low])+real(m.E[high]), imag(m.E[low])+imag(m.E[high])
	other := m.E[m.N*(r+w-2*w*rowBit)+c+w-2*w*columnBit]
	switch {
	case k == api.ChannelX || k == api.ChannelY && rowBit == columnBit:
		return other
	case k == api.ChannelY:
		return complex(-real(other), -imag(other))
	case k == api.ChannelZ && rowBit == columnBit:
		return m.E[m.N*r+c]
	case k == api.ChannelZ:
		return complex(-real(m.E[m.N*r+c]), -imag(m.E[m.N*r+c]))
	case rowBit != columnBit || k == api.ChannelReset && rowBit == 1:
		return 0
	case k == api.ChannelReset:
		return complex(sumRe, sumIm)
	}
	return complex(sumRe/2, sumIm/2)
}
