package token

import "phasor/api"

// At answers the spot of a byte; one ahead of the text, or behind it, is taken as the nearest that there is.
func At(s string, off int) api.Spot {
	return onward(s, api.Spot{Line: 1, Col: 1}, min(max(off, 0), len(s)))
}

// onward goes from a spot where a rune begins on to the byte at off. The runes are those of the whole text: of one in which off stands the rest is not cut away.
func onward(s string, from api.Spot, off int) api.Spot {
	to := api.Spot{Off: off, Line: from.Line, Col: from.Col}
	for i, r := range s[from.Off:] {
		if from.Off+i >= off {
			break
		}
		to.Col++
		if r == '\n' {
			to.Line++
			to.Col = 1
		}
	}
	return to
}
