package odds

import "phasor/api"

// Project leaves what has a qubit at a value (P11.4).
func Project(s []complex128, qubit int, value int) ([]complex128, api.Errno) {
	if e := checkValue(s, qubit, value); e != api.OK {
		return nil, e
	}
	return kept(s, qubit, value, 0), api.OK
}

// Settle projects, and puts the qubit to 0 (P11.4).
func Settle(s []complex128, qubit int, value int) ([]complex128, api.Errno) {
	if e := checkValue(s, qubit, value); e != api.OK {
		return nil, e
	}
	return kept(s, qubit, value, value<<qubit), api.OK
}

// checkValue tells whether a qubit of a state may be put to a value.
func checkValue(s []complex128, qubit, value int) api.Errno {
	if e := check(s, qubit); e != api.OK {
		return e
	}
	if value != 0 && value != 1 {
		return api.ErrOdds
	}
	return api.OK
}

// kept is a state of noughts but for the amplitudes in whose place a qubit is at a value; each goes where the bits of flip are turned.
func kept(s []complex128, qubit, value, flip int) []complex128 {
	l := make([]complex128, len(s))
	for place, z := range s {
		if bit(place, qubit) == value {
			l[place^flip] = z
		}
	}
	return l
}
