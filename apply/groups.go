package apply

import (
	"slices"
	"sync"
)

// deed is what is done with the amplitudes of a group, by their indexes and in their place. It keeps nothing, so that several goroutines may do it at a time.
type deed func(x []complex128)

// work is a deed to be done with each group of a state, in the state's own memory.
type work struct {
	s      []complex128
	rising []int // the qubits of the groups
	steps  []int // how far the place of each index is from that of index 0
	do     deed
}

// over answers the work of doing a deed with each group that some qubits of a state make.
func over(s []complex128, qubits []int, do deed) work {
	w := work{s: s, rising: slices.Clone(qubits), steps: make([]int, 1<<len(qubits)), do: do}
	slices.Sort(w.rising)
	for j := range w.steps {
		for t, q := range qubits {
			w.steps[j] |= (j >> t & 1) << q
		}
	}
	return w
}

func (w work) groups() int { return len(w.s) / len(w.steps) }

// first answers the place of a group's index 0: the group's number with a nought put in at each of the qubits.
func (w work) first(group int) int {
	place := group
	for _, q := range w.rising {
		low := place & (1<<q - 1)
		place = (place-low)<<1 | low
	}
	return place
}

func (w work) all() { w.share(0, w.groups()) }

// share does the groups from one to below another.
func (w work) share(from, until int) {
	x := make([]complex128, len(w.steps))
	for group := from; group < until; group++ {
		first := w.first(group)
		for j, step := range w.steps {
			x[j] = w.s[first+step]
		}
		w.do(x)
		for j, step := range w.steps {
			w.s[first+step] = x[j]
		}
	}
}

// byHands shares all groups among so many goroutines. No amplitude is of two groups, so none is touched by two of them.
func (w work) byHands(hands int) {
	var workers sync.WaitGroup
	for hand := range hands {
		workers.Add(1)
		go func() {
			defer workers.Done()
			w.share(hand*w.groups()/hands, (hand+1)*w.groups()/hands)
		}()
	}
	workers.Wait()
}
