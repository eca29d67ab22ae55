package route

import "phasor/api"

// layout keeps where everything is while operations are laid onto places. Each place has a number: its qubit's or, where no qubit is, one of those behind the qubits'.
type layout struct {
	places  [api.MaxWires]int // of each number its place
	numbers [api.MaxWires]int // of each place its number
	ops     []api.Op
	swaps   int
}

// always is If of what has no condition.
const always = -1

// nobody stands where no number is yet.
const nobody = -1

// laid answers the layout of n places in which qubits are at some of them, unlike ones; the others have the numbers that follow, the least place first.
func laid(qubits []int, n int) *layout {
	l := &layout{}
	for place := range n {
		l.numbers[place] = nobody
	}
	for number, place := range qubits {
		l.seat(number, place)
	}
	next := len(qubits)
	for place := range n {
		if l.numbers[place] == nobody {
			l.seat(next, place)
			next++
		}
	}
	return l
}

// seat puts a number at a place.
func (l *layout) seat(number, place int) {
	l.places[number], l.numbers[place] = place, number
}

// at answers the places of numbers.
func (l *layout) at(numbers []int) []int {
	places := make([]int, len(numbers))
	for i, number := range numbers {
		places[i] = l.places[number]
	}
	return places
}

// step swaps what is at two neighbours.
func (l *layout) step(from, to int) {
	l.ops = append(l.ops, api.Op{Kind: api.OpGate, Gate: api.GateSwap, Qubits: []int{from, to}, If: always})
	l.swaps++
	here, there := l.numbers[from], l.numbers[to]
	l.seat(here, to)
	l.seat(there, from)
}

// walk takes what is at a place along the places behind it.
func (l *layout) walk(from int, along []int) {
	for _, to := range along {
		l.step(from, to)
		from = to
	}
}

// lay lays an operation onto its qubits' places; a gate's two qubits are brought together first.
func (l *layout) lay(op api.Op, c *chart) {
	places := l.at(op.Qubits)
	if op.Kind == api.OpGate && !c.takes(places) {
		path := c.path(places[0], places[1])
		l.walk(path[0], path[1:len(path)-1])
		places = l.at(op.Qubits)
	}
	op.Qubits = places
	l.ops = append(l.ops, op)
}

// bringHome takes each number to the place that is called like it.
func (l *layout) bringHome(t *tree) {
	for _, home := range t.farthestFirst() {
		from := l.places[home]
		l.walk(from, t.path(from, home))
	}
}

// upTo answers the numbers from 0 to below n.
func upTo(n int) []int {
	l := make([]int, n)
	for i := range n {
		l[i] = i
	}
	return l
}
