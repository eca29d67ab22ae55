package route_test

import (
	"slices"

	"phasor/api"
)

// The chapter written a second time, as it says it: by looking through all pairs, places and paths.

func slowNear(m api.Coupling, a, b int) bool {
	for _, p := range m.Pairs {
		if p[0] == a && p[1] == b || p[0] == b && p[1] == a {
			return true
		}
	}
	return false
}

// slowRight is P20.1: groups of places that have a path between them grow together, until there is one.
func slowRight(m api.Coupling) bool {
	if m.N < 1 || m.N > 64 {
		return false
	}
	group := first(m.N)
	for _, p := range m.Pairs {
		if p[0] < 0 || p[1] < 0 || p[0] >= m.N || p[1] >= m.N || p[0] == p[1] {
			return false
		}
		from, to := group[p[0]], group[p[1]]
		for place := range group {
			if group[place] == from {
				group[place] = to
			}
		}
	}
	return len(slices.Compact(group)) == 1
}

// slowFar is P20.3: each way by a third place that is shorter is taken.
func slowFar(m api.Coupling) [][]int {
	l := make([][]int, m.N)
	for a := range l {
		l[a] = slices.Repeat([]int{1000}, m.N)
		l[a][a] = 0
	}
	for _, p := range m.Pairs {
		l[p[0]][p[1]], l[p[1]][p[0]] = 1, 1
	}
	for k := range l {
		for a := range l {
			for b := range l {
				if l[a][k]+l[k][b] < l[a][b] {
					l[a][b] = l[a][k] + l[k][b]
				}
			}
		}
	}
	return l
}

// slowPath is P20.3.
func slowPath(m api.Coupling, far [][]int, a, b int) []int {
	l := []int{a}
	for a != b {
		for next := range m.N {
			if slowNear(m, a, next) && far[next][b] == far[a][b]-1 {
				a = next
				break
			}
		}
		l = append(l, a)
	}
	return l
}

// slowFits is P20.4.
func slowFits(c api.Circuit, m api.Coupling) bool {
	if c.Qubits > m.N {
		return false
	}
	for _, op := range c.Ops {
		if op.Kind != api.OpGate || len(op.Qubits) == 1 {
			continue
		}
		if len(op.Qubits) == 3 || !slowNear(m, op.Qubits[0], op.Qubits[1]) {
			return false
		}
	}
	return true
}

// board is what is at each place; -1 where there is nothing.
type board []int

func (b board) find(number int) int { return slices.Index(b, number) }

// swap exchanges what is at two places, and answers the operation that does so.
func (b board) swap(from, to int) api.Op {
	b[from], b[to] = b[to], b[from]
	return do(api.GateSwap, from, to)
}

// slowRoute is P20.5; false, if it is refused.
func slowRoute(c api.Circuit, m api.Coupling) (api.Routed, bool) {
	r := api.Routed{Circuit: of(m.N, c.Bits)}
	if c.Qubits > m.N {
		return api.Routed{}, false
	}
	b, far := board(slices.Repeat([]int{-1}, m.N)), slowFar(m)
	copy(b, first(c.Qubits))
	for _, op := range c.Ops {
		if op.Kind == api.OpGate && len(op.Qubits) == 3 {
			return api.Routed{}, false
		}
		for op.Kind == api.OpGate && len(op.Qubits) == 2 {
			from, to := b.find(op.Qubits[0]), b.find(op.Qubits[1])
			if slowNear(m, from, to) {
				break
			}
			r.Circuit.Ops = append(r.Circuit.Ops, b.swap(from, slowPath(m, far, from, to)[1]))
			r.Swaps++
		}
		var places []int
		for _, q := range op.Qubits {
			places = append(places, b.find(q))
		}
		op.Qubits = places
		r.Circuit.Ops = append(r.Circuit.Ops, op)
	}
	for q := range c.Qubits {
		r.Place = append(r.Place, b.find(q))
	}
	return r, len(r.Circuit.Ops) <= 4096
}

// slowAbove are a place and all that are above it in the tree, up to 0.
func slowAbove(m api.Coupling, far [][]int, place int) []int {
	l := []int{place}
	for place != 0 {
		parent := slices.IndexFunc(first(m.N), func(p int) bool { return slowNear(m, p, place) && far[p][0] == far[place][0]-1 })
		place = parent
		l = append(l, place)
	}
	return l
}

// slowTreePath is P20.6: up to the first place that is above both, and down.
func slowTreePath(m api.Coupling, far [][]int, a, b int) []int {
	up, down := slowAbove(m, far, a), slowAbove(m, far, b)
	top := slices.IndexFunc(up, func(p int) bool { return slices.Contains(down, p) })
	down = down[:slices.Index(down, up[top])]
	slices.Reverse(down)
	return slices.Concat(up[:top+1], down)
}

// slowHomely tells whether Home takes what was laid out, of a right map.
func slowHomely(r api.Routed, m api.Coupling) bool {
	for i, p := range r.Place {
		for _, q := range r.Place[:i] {
			if p == q {
				return false
			}
		}
		if p < 0 || p >= m.N {
			return false
		}
	}
	return r.Circuit.Qubits == m.N
}

// slowHome is P20.6, of what it takes; false, if it becomes too long.
func slowHome(r api.Routed, m api.Coupling) (api.Routed, bool) {
	h := api.Routed{Circuit: deep(r.Circuit), Place: first(len(r.Place)), Swaps: r.Swaps}
	b, far := board(slices.Repeat([]int{-1}, m.N)), slowFar(m)
	for q, place := range r.Place {
		b[place] = q
	}
	for number := len(r.Place); number < m.N; number++ {
		b[b.find(-1)] = number
	}
	for distance := m.N; distance >= 0; distance-- {
		for p := m.N - 1; p >= 0; p-- {
			if far[p][0] != distance {
				continue
			}
			path := slowTreePath(m, far, b.find(p), p)
			for i := 1; i < len(path); i++ {
				h.Circuit.Ops = append(h.Circuit.Ops, b.swap(path[i-1], path[i]))
				h.Swaps++
			}
		}
	}
	return h, slices.Equal(b, first(m.N)) && len(h.Circuit.Ops) <= 4096
}
