package scalar

import (
	"cmp"
	"math"
)

// Same tells whether two floats are the same.
func Same(a, b float64) bool { return Bits(a) == Bits(b) }

// Compare orders floats: a nought with a sign ahead of one without, and NaN last.
func Compare(a, b float64) int { return cmp.Compare(rank(a), rank(b)) }

// Next answers the float's neighbour in the order of Compare.
func Next(x float64, up bool) float64 {
	switch {
	case x != x, up && math.IsInf(x, 1), !up && math.IsInf(x, -1):
		return x
	case up:
		return ranked(rank(x) + 1)
	}
	return ranked(rank(x) - 1)
}

// rank numbers floats in their order, neighbours by neighbouring numbers: the format's bits rise with the magnitude, so they are turned over below nought.
func rank(x float64) uint64 {
	b := Bits(x)
	if b&bitSign != 0 {
		return ^b
	}
	return b | bitSign
}

// ranked answers the float of a rank.
func ranked(r uint64) float64 {
	if r&bitSign != 0 {
		return Of(r &^ bitSign)
	}
	return Of(^r)
}
