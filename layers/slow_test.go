package layers_test

import (
	"slices"

	"phasor/api"
)

// The chapter written a second time, as it says it: by all operations ahead and behind, not by the last one on each wire.

// wire is a qubit or a bit.
type wire struct {
	bit    bool
	number int
}

func slowWires(op api.Op) []wire {
	var l []wire
	for _, q := range op.Qubits {
		l = append(l, wire{false, q})
	}
	if op.Kind == api.OpMeasure {
		l = append(l, wire{true, op.Bit})
	}
	if op.Kind == api.OpGate && op.If != -1 {
		l = append(l, wire{true, op.If})
	}
	return l
}

func slowTouch(a, b api.Op) bool {
	for _, p := range a.Qubits {
		if slices.Contains(b.Qubits, p) {
			return true
		}
	}
	of := slowWires(a)
	for _, w := range slowWires(b) {
		if w.bit && slices.Contains(of, w) {
			return true
		}
	}
	return false
}

func isBarrier(op api.Op) bool { return op.Kind == api.OpBarrier }

// slowEarly is P19.1.
func slowEarly(c api.Circuit) []int {
	var l []int
	for j, op := range c.Ops {
		greatest := 0
		for i := range j {
			if slowTouch(c.Ops[i], op) && l[i] > greatest {
				greatest = l[i]
			}
		}
		if !isBarrier(op) {
			greatest++
		}
		l = append(l, greatest)
	}
	return l
}

func slowDepth(c api.Circuit) int {
	greatest := 0
	for _, moment := range slowEarly(c) {
		if moment > greatest {
			greatest = moment
		}
	}
	return greatest
}

// slowLate is P19.1: all that are behind count, each in its way.
func slowLate(c api.Circuit) []int {
	l, depth := make([]int, len(c.Ops)), slowDepth(c)
	for i := len(l) - 1; i >= 0; i-- {
		among := []int{depth}
		for j := i + 1; j < len(l); j++ {
			switch {
			case !slowTouch(c.Ops[i], c.Ops[j]):
			case isBarrier(c.Ops[j]):
				among = append(among, l[j])
			default:
				among = append(among, l[j]-1)
			}
		}
		slices.Sort(among)
		l[i] = among[0]
	}
	return l
}

// slowMoments is P19.2.
func slowMoments(c api.Circuit) [][]int {
	var l [][]int
	moments, depth := slowEarly(c), slowDepth(c)
	for moment := 1; moment <= depth; moment++ {
		var row []int
		for at, op := range c.Ops {
			if !isBarrier(op) && moments[at] == moment {
				row = append(row, at)
			}
		}
		l = append(l, row)
	}
	return l
}

// slowSorted is P19.2.
func slowSorted(c api.Circuit) api.Circuit {
	d := of(c.Qubits, c.Bits)
	moments, depth := slowEarly(c), slowDepth(c)
	for moment := 0; moment <= depth; moment++ {
		for _, barriers := range []bool{false, true} {
			for at, op := range c.Ops {
				if isBarrier(op) == barriers && moments[at] == moment {
					d.Ops = append(d.Ops, op)
				}
			}
		}
	}
	return d
}

// slowCone is P19.3: the numbers, in the order in which they are gone through.
func slowCone(c api.Circuit, qubits, order []int) []int {
	matter := map[wire]bool{}
	for _, q := range qubits {
		matter[wire{false, q}] = true
	}
	var l []int
	for _, at := range order {
		own := slowWires(c.Ops[at])
		if !isBarrier(c.Ops[at]) && slices.ContainsFunc(own, func(w wire) bool { return matter[w] }) {
			l = append(l, at)
			for _, w := range own {
				matter[w] = true
			}
		}
	}
	return l
}

func slowPast(c api.Circuit, qubits []int) []int {
	order := upTo(len(c.Ops))
	slices.Reverse(order)
	l := slowCone(c, qubits, order)
	slices.Sort(l)
	return l
}

func slowFuture(c api.Circuit, qubits []int) []int {
	return slowCone(c, qubits, upTo(len(c.Ops)))
}

func slowPrune(c api.Circuit, qubits []int) api.Circuit {
	d := of(c.Qubits, c.Bits)
	for _, at := range slowPast(c, qubits) {
		d.Ops = append(d.Ops, c.Ops[at])
	}
	return d
}

// slowTold is what each call must answer, by its name.
func slowTold(c api.Circuit, qubits []int) map[string]told {
	return map[string]told{
		"Early":   {rows: [][]int{slowEarly(c)}},
		"Late":    {rows: [][]int{slowLate(c)}},
		"Depth":   {number: slowDepth(c)},
		"Moments": {rows: slowMoments(c)},
		"Sorted":  {circuit: slowSorted(c)},
		"Past":    {rows: [][]int{slowPast(c, qubits)}},
		"Future":  {rows: [][]int{slowFuture(c, qubits)}},
		"Prune":   {circuit: slowPrune(c, qubits)},
	}
}
