package noise

import (
	"phasor/api"
	"phasor/circuit"
)

// Draw draws errors by numbers (P24.3).
func Draw(c api.Circuit, p float64, us []float64) ([]api.Slip, int, api.Errno) {
	if _, e := circuit.Check(c); e != api.OK {
		return nil, 0, e
	}
	// So written, a NaN is refused, too.
	if !(p >= 0 && p <= 1) {
		return nil, 0, api.ErrNoise
	}
	var slips []api.Slip
	used := 0
	for i, op := range c.Ops {
		if op.Kind != api.OpGate {
			continue
		}
		for _, qubit := range op.Qubits {
			if used == len(us) || !isFraction(us[used]) {
				return nil, 0, api.ErrNoise
			}
			if u := us[used]; u < p {
				slips = append(slips, api.Slip{After: i + 1, P: alone(drawn(u, p), qubit, c.Qubits)})
			}
			used++
		}
	}
	return slips, used, api.OK
}

// drawn answers which letter strikes by a number below p: each by a third of these.
func drawn(u, p float64) letter {
	switch {
	case float64(u*3) < p:
		return letterX
	case float64(u*1.5) < p:
		return letterZ
	}
	return letterY
}

// isFraction tells whether a float is from 0 to below 1.
func isFraction(u float64) bool { return u >= 0 && u < 1 }
