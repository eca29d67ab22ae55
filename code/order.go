package code

import "phasor/api"

// first answers the first string of n qubits that will do, of those with the fewest letters: by the places of the letters, then by the letters. One of all must do.
func first(n int, will func(p api.Pauli) bool) api.Pauli {
	for count := range n + 1 {
		places := make([]int, count)
		for i := range places {
			places[i] = i
		}
		for more := true; more; more = rise(places, n) {
			if p, found := lettered(n, places, "", will); found {
				return p
			}
		}
	}
	return api.Pauli{}
}

// rise turns a row of rising places below n into the one that comes next; false, if it is the last one.
func rise(places []int, n int) bool {
	for i := len(places) - 1; i >= 0; i-- {
		if places[i] < n-len(places)+i {
			for k, at := i, places[i]+1; k < len(places); k, at = k+1, at+1 {
				places[k] = at
			}
			return true
		}
	}
	return false
}

// lettered answers the first string that will do, of those whose letters at the places begin as given.
func lettered(n int, places []int, letters string, will func(p api.Pauli) bool) (api.Pauli, bool) {
	if len(letters) == len(places) {
		p := written(n, places, letters)
		return p, will(p)
	}
	for _, l := range "XYZ" {
		if p, found := lettered(n, places, letters+string(l), will); found {
			return p, true
		}
	}
	return api.Pauli{}, false
}

// written is the string with these letters at these places, and I at all others.
func written(n int, places []int, letters string) api.Pauli {
	p := api.Pauli{N: n}
	for i, l := range letters {
		if l != 'Z' {
			p.X |= 1 << places[i]
		}
		if l != 'X' {
			p.Z |= 1 << places[i]
		}
	}
	return p
}
