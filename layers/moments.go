package layers

import (
	"cmp"
	"slices"

	"phasor/api"
)

// none stands where no operation has been met.
const none = -1

// latest is of each wire the number of the operation that was met on it last, or none. That one decides alone: moments on one wire never fall, gone through from the first on, and never rise, gone through from the last on.
type latest [wireCount]int

func noneMet() latest {
	var met latest
	for wire := range met {
		met[wire] = none
	}
	return met
}

// length is how many moments an operation takes.
func length(op *api.Op) int {
	if op.Kind == api.OpBarrier {
		return 0
	}
	return 1
}

// early answers the earliest moments.
func early(ops []api.Op) []int {
	moments, met := make([]int, len(ops)), noneMet()
	for at := range ops {
		ended := 0
		for _, wire := range wires(&ops[at]) {
			if ahead := met[wire]; ahead != none {
				ended = max(ended, moments[ahead])
			}
			met[wire] = at
		}
		moments[at] = ended + length(&ops[at])
	}
	return moments
}

// late answers the latest moments.
func late(ops []api.Op) []int {
	depth := greatest(early(ops))
	moments, met := make([]int, len(ops)), noneMet()
	for at := range slices.Backward(ops) {
		moments[at] = depth
		for _, wire := range wires(&ops[at]) {
			if behind := met[wire]; behind != none {
				moments[at] = min(moments[at], moments[behind]-length(&ops[behind]))
			}
			met[wire] = at
		}
	}
	return moments
}

// greatest answers the greatest of moments, 0 of none.
func greatest(moments []int) int {
	most := 0
	for _, moment := range moments {
		most = max(most, moment)
	}
	return most
}

// sorted answers the numbers of operations in the order of their earliest moments, of one moment barriers last.
func sorted(ops []api.Op) []int {
	moments, l := early(ops), make([]int, len(ops))
	for at := range l {
		l[at] = at
	}
	slices.SortStableFunc(l, func(a, b int) int {
		return cmp.Or(cmp.Compare(moments[a], moments[b]), cmp.Compare(length(&ops[b]), length(&ops[a])))
	})
	return l
}
