package route

import (
	"cmp"
	"slices"

	"phasor/api"
)

// pair is two places. Pairs are held against each other as a whole, so one and the same turned round are two.
type pair = [2]int

// chart is a map that is right: of each place the pairs that begin there, each once, the one with the least neighbour first.
type chart struct {
	n     int
	links [api.MaxWires][]pair
}

// distances tells of each place how many steps it is away from one.
type distances [api.MaxWires]int

// unreached stands where no path leads.
const unreached = -1

// chartOf answers the chart of a map, or ErrMap.
func chartOf(m api.Coupling) (*chart, api.Errno) {
	if m.N < 1 || m.N > api.MaxWires {
		return nil, api.ErrMap
	}
	c := &chart{n: m.N}
	for _, p := range m.Pairs {
		back := pair{p[1], p[0]}
		if !c.has(p[0]) || !c.has(p[1]) || p == back {
			return nil, api.ErrMap
		}
		c.link(p)
		c.link(back)
	}
	for place := range c.n {
		slices.SortFunc(c.links[place], func(a, b pair) int { return cmp.Compare(a[1], b[1]) })
	}
	// Pairs lead both ways: what is reached from one place reaches everything.
	if far := c.far(0); slices.Contains(far[:c.n], unreached) {
		return nil, api.ErrMap
	}
	return c, api.OK
}

// has tells whether a number is a place.
func (c *chart) has(place int) bool { return place >= 0 && place < c.n }

// link puts a pair where it begins, unless it is there already.
func (c *chart) link(p pair) {
	if !c.meets(p) {
		c.links[p[0]] = append(c.links[p[0]], p)
	}
}

// meets tells whether two places are neighbours.
func (c *chart) meets(p pair) bool { return slices.Contains(c.links[p[0]], p) }

// takes tells whether a gate may be on these places.
func (c *chart) takes(places []int) bool {
	return len(places) == 1 || len(places) == 2 && c.meets(pair{places[0], places[1]})
}

// unlike tells whether each of a list's numbers is a place, no two alike. However long the list is, no more of it is looked at than one number above the places.
func (c *chart) unlike(list []int) bool {
	for i, place := range list {
		if !c.has(place) || slices.Contains(list[:i], place) {
			return false
		}
	}
	return true
}

// far answers how far all places are from one.
func (c *chart) far(from int) distances {
	var far distances
	for place := range far {
		far[place] = unreached
	}
	far[from] = 0
	reached := []int{from}
	for i := 0; i < len(reached); i++ {
		place := reached[i]
		for _, link := range c.links[place] {
			if next := link[1]; far[next] == unreached {
				far[next] = far[place] + 1
				reached = append(reached, next)
			}
		}
	}
	return far
}

// nearer answers the least neighbour that is one step nearer to where the distances are told from; from there itself no step leads nearer, and it is answered.
func (c *chart) nearer(place int, far *distances) int {
	for _, link := range c.links[place] {
		if far[link[1]] == far[place]-1 {
			return link[1]
		}
	}
	return place
}

// path answers the places of the shortest path from a to b, both with it.
func (c *chart) path(a, b int) []int {
	far := c.far(b)
	l := []int{a}
	for a != b {
		a = c.nearer(a, &far)
		l = append(l, a)
	}
	return l
}

// grid answers the map of w columns and h rows.
func grid(w, h int) api.Coupling {
	m := api.Coupling{N: w * h}
	for place := range m.N {
		if place%w+1 < w {
			m.Pairs = append(m.Pairs, pair{place, place + 1})
		}
		if place+w < m.N {
			m.Pairs = append(m.Pairs, pair{place, place + w})
		}
	}
	return m
}
