package route

import (
	"cmp"
	"slices"

	"phasor/api"
)

// tree has of each place but 0 its parent, the least neighbour that is one step nearer to place 0.
type tree struct {
	n       int
	parents [api.MaxWires]int
	depths  distances
}

func (c *chart) tree() *tree {
	t := &tree{n: c.n, depths: c.far(0)}
	for place := range c.n {
		t.parents[place] = c.nearer(place, &t.depths)
	}
	return t
}

// path answers the places that one comes to from a to b: up as far as need be, and down.
func (t *tree) path(a, b int) []int {
	var up, down []int
	for a != b {
		if t.depths[a] < t.depths[b] {
			down = append(down, b)
			b = t.parents[b]
		} else {
			a = t.parents[a]
			up = append(up, a)
		}
	}
	slices.Reverse(down)
	return append(up, down...)
}

// farthestFirst answers all places, the deepest first, of equally deep ones the greatest first. What has come to such a place is not moved by those that follow: their paths lead through places that are less deep.
func (t *tree) farthestFirst() []int {
	l := upTo(t.n)
	slices.SortFunc(l, func(a, b int) int {
		return cmp.Or(cmp.Compare(t.depths[b], t.depths[a]), cmp.Compare(b, a))
	})
	return l
}
