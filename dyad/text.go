package dyad

import (
	"math/bits"
	"strconv"
	"strings"

	"phasor/api"
)

// Print writes a dyad.
func Print(d api.Dyad) (string, api.Errno) {
	if e := Check(d); e != api.OK {
		return "", e
	}
	sign := "+"
	if d.Im < 0 {
		sign = "-"
	}
	text := strconv.FormatInt(d.Re, 10) + sign + strconv.FormatUint(size(d.Im), 10) + "i"
	if d.Exp > 0 {
		text += "/" + strconv.FormatInt(1<<d.Exp, 10)
	}
	return text, api.OK
}

// Parse reads one. It reads loosely, and then holds what it read against the text by writing it again: so nothing but what Print writes comes through.
func Parse(s string) (api.Dyad, api.Errno) {
	parts, below, _ := strings.Cut(s, "i")
	re, im := cutParts(parts)
	d := api.Dyad{Re: number(re), Im: number(im)}
	if power, found := strings.CutPrefix(below, "/"); found {
		d.Exp = bits.Len64(uint64(number(power))) - 1
	}
	text, e := Print(d)
	if e != api.OK || text != s {
		return api.Dyad{}, api.ErrExact
	}
	return d, api.OK
}

// cutParts cuts ahead of the last sign, which is the imaginary part's.
func cutParts(s string) (re, im string) {
	at := max(0, strings.LastIndexAny(s, "+-"))
	return s[:at], s[at:]
}

// number is 0 of what is no number.
func number(s string) int64 {
	n, err := strconv.ParseInt(s, 10, 64)
	if err != nil {
		return 0
	}
	return n
}
