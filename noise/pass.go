package noise

import (
	"math/bits"

	"phasor/api"
	"phasor/matrix"
	"phasor/plane"
	"phasor/scalar"
)

// mostHalves is how often the odds of a channel may be halved.
const mostHalves = 20

// Pass sends a density matrix through a channel (P24.6).
func Pass(m api.Matrix, qubit int, k api.Channel, halves int) (api.Matrix, api.Errno) {
	if matrix.Check(m) != api.OK || bits.OnesCount(uint(m.N)) != 1 {
		return api.Matrix{}, api.ErrShape
	}
	entry, known := channels()[k]
	if !known || qubit < 0 || qubit >= bits.TrailingZeros(uint(m.N)) || halves < 0 || halves > mostHalves {
		return api.Matrix{}, api.ErrNoise
	}
	q, bit := scalar.Join(1, -halves), 1<<qubit
	passed := api.Matrix{N: m.N, E: make([]complex128, 0, len(m.E))}
	for row := range m.N {
		for column := range m.N {
			kept := plane.Mul(at(m, row, column), complex(1-q, 0))
			struck := plane.Mul(complex(q, 0), entry(m, row, column, bit))
			passed.E = append(passed.E, plane.Clean(plane.Add(kept, struck)))
		}
	}
	return passed, api.OK
}

// channel answers the entry of a channel's matrix at a row and a column, of the matrix as it was; bit has the qubit's bit alone.
type channel func(m api.Matrix, row, column, bit int) complex128

// channels has each kind's.
func channels() map[api.Channel]channel {
	return map[api.Channel]channel{
		api.ChannelX:     turnedBit,
		api.ChannelZ:     turnedSign,
		api.ChannelY:     turnedBoth,
		api.ChannelReset: settled,
		api.ChannelMix:   mixed,
	}
}

func turnedBit(m api.Matrix, row, column, bit int) complex128 {
	return at(m, row^bit, column^bit)
}

func turnedSign(m api.Matrix, row, column, bit int) complex128 {
	return signed(at(m, row, column), row, column, bit)
}

func turnedBoth(m api.Matrix, row, column, bit int) complex128 {
	return signed(turnedBit(m, row, column, bit), row, column, bit)
}

func settled(m api.Matrix, row, column, bit int) complex128 {
	if (row|column)&bit != 0 {
		return 0
	}
	return bothValues(m, row, column, bit)
}

func mixed(m api.Matrix, row, column, bit int) complex128 {
	if part(row, column, bit) {
		return 0
	}
	half, _ := plane.Half(bothValues(m, row, column, bit), 1)
	return half
}

// bothValues adds the entries at a row and a column with the bit 0 in both, and with it 1 in both.
func bothValues(m api.Matrix, row, column, bit int) complex128 {
	return plane.Add(at(m, row&^bit, column&^bit), at(m, row|bit, column|bit))
}

// signed answers an entry, with the other sign if its row and its column part in the bit.
func signed(z complex128, row, column, bit int) complex128 {
	if part(row, column, bit) {
		return plane.Neg(z)
	}
	return z
}

// part tells whether a row and a column part in the bit.
func part(row, column, bit int) bool { return (row^column)&bit != 0 }

func at(m api.Matrix, row, column int) complex128 {
	return m.E[m.N*row+column]
}
