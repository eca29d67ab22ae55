package state

import (
	"iter"
	"slices"
)

// Support goes through the amplitudes that are not 0.
func Support(s []complex128) iter.Seq2[int, complex128] {
	var then []complex128
	if right(s) {
		then = slices.Clone(s)
	}
	return func(yield func(int, complex128) bool) {
		for k, z := range then {
			if z != 0 && !yield(k, z) {
				return
			}
		}
	}
}
