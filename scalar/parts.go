package scalar

import (
	"math/bits"

	"phasor/api"
)

// Split takes a float apart: an odd number, and the power of two that it is times.
func Split(x float64) (int64, int, api.Errno) {
	b := Bits(x)
	m, e := int64(b&bitFraction), powerLeast
	switch Class(x) {
	case api.ClassNaN, api.ClassInf:
		return 0, 0, api.ErrFloat
	case api.ClassZero:
		return 0, 0, api.OK
	case api.ClassNormal:
		m |= int64(bitHidden)
		// Powers are told from 1 on; 0 is that of subnormal floats, whose steps are those of 1.
		e += int(b&^bitSign>>sizeFraction) - 1
		fallthrough
	case api.ClassSubnormal:
		even := bits.TrailingZeros64(uint64(m))
		m >>= even
		e += even
	}
	if Signed(x) {
		m = -m
	}
	return m, e, api.OK
}

// Join answers m times two to the power e, rounded once.
func Join(m int64, e int) float64 {
	if m < 0 {
		// The least m has no negative in its type, but its bits are those of its magnitude.
		return pack(bitSign, uint64(-m), e)
	}
	return pack(0, uint64(m), e)
}

// pack answers m times two to the power e with a sign, rounded once.
func pack(sign, m uint64, e int) float64 {
	if m == 0 {
		return 0
	}
	// Beyond these powers every m is too great or too small, and what is reckoned with e below stays in an int.
	e = min(max(e, -1200), 1100)
	step := max(e+bits.Len64(m)-sizeFraction-1, powerLeast)
	if step > e {
		m = roundOff(m, step-e)
	} else {
		m <<= e - step
	}
	// The hidden bit of m, or what it was rounded up to, counts the power up by itself.
	b := uint64(step-powerLeast)<<sizeFraction + m
	return Of(sign | min(b, bitsInf))
}

// roundOff takes n bits off m, rounded to the nearest, a tie to the even one; n is at least 1.
func roundOff(m uint64, n int) uint64 {
	if n > 64 {
		return 0
	}
	const tie = 1 << 63
	kept, rest := m>>n, m<<(64-n)
	if rest > tie || rest == tie && kept&1 == 1 {
		kept++
	}
	return kept
}

// Half answers half a float, and whether that is exact.
func Half(x float64) (float64, bool) {
	half := x / 2
	return half, Same(half*2, x)
}

// Exact tells whether a float is a multiple of two to the power -k.
func Exact(x float64, k int) bool {
	m, e, err := Split(x)
	return err == api.OK && (m == 0 || k >= -e)
}

// Plus answers a float whose nought has no sign.
func Plus(x float64) float64 { return x + 0 }
