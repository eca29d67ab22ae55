package octet

import "phasor/api"

const digits = "0123456789abcdef"

// Hex writes bytes as digits, two a byte.
func Hex(b []byte) string {
	text := make([]byte, 0, 2*len(b))
	for _, x := range b {
		text = append(text, digits[x>>4], digits[x&15])
	}
	return string(text)
}

// Unhex reads what Hex writes.
func Unhex(s string) ([]byte, api.Errno) {
	if len(s)%2 != 0 {
		return nil, api.ErrArg
	}
	b := make([]byte, len(s)/2)
	for i, r := range s {
		v, ok := digitOf(r)
		if !ok {
			return nil, api.ErrArg
		}
		// All runes so far are digits of one byte each, so i counts them.
		b[i/2] = b[i/2]<<4 | v
	}
	return b, api.OK
}

// digitOf is what a digit stands for; digits above 9 are small letters alone.
func digitOf(r rune) (byte, bool) {
	switch {
	case '0' <= r && r <= '9':
		return byte(r - '0'), true
	case 'a' <= r && r <= 'f':
		return byte(r-'a') + 10, true
	}
	return 0, false
}
