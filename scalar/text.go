package scalar

import (
	"math/bits"
	"strconv"
	"strings"

	"phasor/api"
)

const hexDigits = "0123456789abcdef"

// Print writes a float: its first bit, the rest of its bits in hexadecimal digits, and its power of two.
func Print(x float64) string {
	switch Class(x) {
	case api.ClassNaN:
		return "nan"
	case api.ClassInf:
		return minus(x) + "inf"
	case api.ClassZero:
		return minus(x) + "0"
	}
	m, e, _ := Split(x)
	m = max(m, -m)
	length := bits.Len64(uint64(m))
	return minus(x) + "0x1" + fraction(uint64(m)<<(64-length)<<1) + "p" + strconv.Itoa(e+length-1)
}

// minus is what stands ahead of a float's magnitude.
func minus(x float64) string {
	if Signed(x) {
		return "-"
	}
	return ""
}

// fraction writes bits that stand behind the point, the highest first, as far as there are any.
func fraction(b uint64) string {
	if b == 0 {
		return ""
	}
	text := []byte{'.'}
	for ; b != 0; b <<= 4 {
		text = append(text, hexDigits[b>>60])
	}
	return string(text)
}

// Parse reads what Print writes.
func Parse(s string) (float64, api.Errno) {
	x, ok := read(s)
	// A float has one text: another one of its value is refused.
	if !ok || Print(x) != s {
		return 0, api.ErrFloat
	}
	return x, api.OK
}

// read answers the float of which Print writes s, if there is one; else any float, or false.
func read(s string) (float64, bool) {
	switch s {
	case "nan":
		return Of(bitsNaN), true
	case "inf":
		return Of(bitsInf), true
	case "-inf":
		return Of(bitSign | bitsInf), true
	case "0":
		return 0, true
	case "-0":
		return Of(bitSign), true
	}
	s, signed := strings.CutPrefix(s, "-")
	behind, power, _ := strings.Cut(strings.TrimPrefix(s, "0x1"), "p")
	behind = strings.TrimPrefix(behind, ".")
	m, err := strconv.ParseInt("1"+behind, 16, 64)
	if err != nil {
		return 0, false
	}
	e, err := strconv.Atoi(power)
	if err != nil {
		return 0, false
	}
	if signed {
		m = -m
	}
	return Join(m, e-4*len(behind)), true
}

// Fixed writes a float in decimal digits, so many of them behind the point.
func Fixed(x float64, digits int) (string, api.Errno) {
	if digits < 0 || digits > api.MaxDigits {
		return "", api.ErrArg
	}
	switch Class(x) {
	case api.ClassNaN, api.ClassInf:
		return Print(x), api.OK
	}
	return strconv.FormatFloat(x, 'f', digits, 64), api.OK
}
