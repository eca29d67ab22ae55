package pauli

import (
	"strings"

	"phasor/api"
)

// signs has what is written ahead of the letters for each phase.
var signs = [...]string{"+", "+i", "-", "-i"}

// Print writes a string (P13.5).
func Print(p api.Pauli) (string, api.Errno) {
	if Check(p) != api.OK {
		return "", api.ErrPauli
	}
	var text strings.Builder
	text.WriteString(signs[p.Phase])
	for q := range p.N {
		text.WriteByte(Letter(p, q))
	}
	return text.String(), api.OK
}

// Parse reads one (P13.5).
func Parse(s string) (api.Pauli, api.Errno) {
	phase, row := cut(s)
	if phase < 0 || len(row) > api.MaxWires {
		return api.Pauli{}, api.ErrPauli
	}
	p := api.Pauli{N: len(row), Phase: phase}
	for q := range p.N {
		at := strings.IndexByte(letters, row[q])
		if at < 0 {
			return api.Pauli{}, api.ErrPauli
		}
		p.X |= uint64(at&1) << q
		p.Z |= uint64(at>>1) << q
	}
	return p, api.OK
}

// cut parts a text into the phase of its sign and what stands behind; the phase is -1 if there is no sign. A sign with an i is looked for ahead of the one without, which it begins with.
func cut(s string) (int, string) {
	for phase := len(signs) - 1; phase >= 0; phase-- {
		if row, ok := strings.CutPrefix(s, signs[phase]); ok {
			return phase, row
		}
	}
	return -1, ""
}
