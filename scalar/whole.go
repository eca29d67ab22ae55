package scalar

import (
	"math/bits"

	"phasor/api"
)

// total is an exact sum: how many steps of two to the power powerLeast it is, in two's complement, the lowest word first.
// Floats reach up to bit 2098 of it, so it has room for more of them than a list can hold.
type total [34]uint64

// Whole is the exact sum, rounded once.
func Whole(l []float64) float64 {
	var sum total
	endless, signed := 0.0, len(l) > 0
	for _, x := range l {
		m, e, err := Split(x)
		if err != api.OK {
			// Infinities that are alike add up to one, all else to a NaN: none of these is 0 again.
			endless += x
			continue
		}
		sum.add(m, e)
		signed = signed && m == 0 && Signed(x)
	}
	switch {
	case endless != 0:
		return endless
	case signed:
		return Of(bitSign)
	}
	return sum.round()
}

// add puts m times two to the power e in; e is at least powerLeast.
func (t *total) add(m int64, e int) {
	place := e - powerLeast
	at, shift := place/64, place%64
	low, high, sign := uint64(m)<<shift, uint64(m>>(64-shift)), uint64(m>>63)
	var carry uint64
	t[at], carry = bits.Add64(t[at], low, 0)
	t[at+1], carry = bits.Add64(t[at+1], high, carry)
	// A sign that is all ones and a carry undo one another, so the words behind stay as they are.
	for i := at + 2; i < len(t) && sign+carry != 0; i++ {
		t[i], carry = bits.Add64(t[i], sign, carry)
	}
}

// round answers the float that is nearest to the sum.
func (t total) round() float64 {
	sign := t[len(t)-1] & bitSign
	if sign != 0 {
		t = t.negated()
	}
	top := len(t) - 1
	for top > 0 && t[top] == 0 {
		top--
	}
	if top == 0 {
		return pack(sign, t[0], powerLeast)
	}
	empty := bits.LeadingZeros64(t[top])
	m := t[top]<<empty | t[top-1]>>(64-empty)
	if t[top-1]<<empty != 0 || !zero(t[:top-1]) {
		// That there is something below m is all that rounding asks of it; m's last bit is no tie's.
		m |= 1
	}
	return pack(sign, m, powerLeast+64*top-empty)
}

// negated answers the sum with the other sign.
func (t total) negated() total {
	carry := uint64(1)
	for i := range t {
		t[i], carry = bits.Add64(^t[i], 0, carry)
	}
	return t
}

func zero(words []uint64) bool {
	for _, w := range words {
		if w != 0 {
			return false
		}
	}
	return true
}
