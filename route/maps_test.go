package route_test

import (
	"math/rand"
	"slices"
	"testing"

	"phasor/api"
	"phasor/route"
)

// P20.1: maps that are right.
func TestRightMaps(t *testing.T) {
	for _, m := range []api.Coupling{
		sketch(t, 1, ""), sketch(t, 2, "0 1"), sketch(t, 2, "1 0"), sketch(t, 2, "0 1, 0 1, 1 0, 0 1"), sketch(t, 3, "2 0, 1 2"), sketch(t, 4, "3 1, 0 2, 3 2, 2 3, 1 3"), sketch(t, 5, "4 3, 3 2, 2 1, 1 0"),
		{N: 64, Pairs: slices.Repeat(thick(64).Pairs, 3)},
	} {
		if e := route.Check(m); e != api.OK {
			t.Errorf("%v: error %d", m, e)
		}
	}
	chance := rand.New(rand.NewSource(2001))
	for _, m := range maps(chance, 2000) {
		if e := route.Check(m); e != api.OK || !slowRight(m) {
			t.Errorf("%v: error %d", m, e)
		}
	}
}

// P20.1: as many pairs as there are, all of them read, none of them kept.
func TestManyPairs(t *testing.T) {
	m := api.Coupling{N: 64, Pairs: slices.Repeat(thick(64).Pairs, 1000)}
	if e := route.Check(m); e != api.OK {
		t.Error("many pairs:", e)
	}
	m.Pairs[len(m.Pairs)-1] = [2]int{63, 64}
	if e := route.Check(m); e != api.ErrMap {
		t.Error("the last one is none:", e)
	}
	m = api.Coupling{N: 3, Pairs: slices.Repeat([][2]int{{0, 1}}, 1<<20)}
	if e := route.Check(m); e != api.ErrMap {
		t.Error("place 2 is apart:", e)
	}
	m.Pairs[len(m.Pairs)-1] = [2]int{2, 1}
	if e := route.Check(m); e != api.OK {
		t.Error("place 2 is there:", e)
	}
}

// P20.1: of wrong maps each call answers ErrMap first, whatever else is wrong.
func TestWrongMaps(t *testing.T) {
	for _, m := range wrongMaps(t) {
		if e := route.Check(m); e != api.ErrMap || slowRight(m) {
			t.Errorf("%v: error %d", m, e)
		}
		if _, e := farOf(t, m); e != api.ErrMap {
			t.Errorf("Far of %v: error %d", m, e)
		}
		for _, p := range [][2]int{{0, 0}, {0, 1}, {-1, 0}, {0, 64}, {great, least}} {
			if _, e := pathOf(t, m, p[0], p[1]); e != api.ErrMap {
				t.Errorf("Path of %v: error %d", m, e)
			}
		}
		for _, c := range []api.Circuit{of(0, 0), of(1, 0, do(api.GateX, 0)), of(2, 0, do(api.GateCX, 0, 1)), of(3, 0, do(api.GateCCX, 0, 1, 2)), of(64, 64), of(65, 0), of(-1, 0), of(m.N, 0), of(1, 0, times(4097, do(api.GateX, 0))...)} {
			if _, e := fitsOf(t, c, m); e != api.ErrMap {
				t.Errorf("Fits of %v: error %d", m, e)
			}
			refusesRoute(t, "a wrong map", c, m, api.ErrMap)
			for _, place := range [][]int{nil, {0}, {0, 1}, {0, 0}, {-1}, {64}} {
				refusesHome(t, "a wrong map", api.Routed{Circuit: c, Place: place}, m, api.ErrMap)
			}
		}
	}
}

// P20.1: any pairs, against the slow way.
func TestMapsAtChance(t *testing.T) {
	chance := rand.New(rand.NewSource(2002))
	count := [2]int{}
	for range 20000 {
		m := api.Coupling{N: chance.Intn(8)}
		for range chance.Intn(3 * (m.N + 1)) {
			// Most are pairs, some are one place twice, few have a number that is none.
			m.Pairs = append(m.Pairs, [2]int{chance.Intn(max(m.N, 1)) - chance.Intn(60)/59, chance.Intn(max(m.N, 1)) + chance.Intn(60)/59})
		}
		wanted := api.ErrMap
		if slowRight(m) {
			wanted = api.OK
			count[1]++
		} else {
			count[0]++
		}
		if e := route.Check(m); e != wanted {
			t.Fatalf("%v: error %d", m, e)
		}
	}
	if count[0] < 1000 || count[1] < 1000 {
		t.Error("too few of one sort:", count)
	}
}

// P20.2: lines and rings, all of them.
func TestLinesAndRings(t *testing.T) {
	for n := 1; n <= 64; n++ {
		m, e := route.Line(n)
		if e != api.OK || !sameMap(m, chain(n)) || route.Check(m) != api.OK {
			t.Errorf("Line(%d): %v, error %d", n, m, e)
		}
		m, e = route.Ring(n)
		if n < 3 {
			if e != api.ErrArg || !sameMap(m, api.Coupling{}) {
				t.Errorf("Ring(%d): %v, error %d", n, m, e)
			}
		} else if e != api.OK || !sameMap(m, wheel(n)) || route.Check(m) != api.OK {
			t.Errorf("Ring(%d): %v, error %d", n, m, e)
		}
	}
	if m, e := route.Ring(3); e != api.OK || !sameMap(m, sketch(t, 3, "0 1, 1 2, 2 0")) {
		t.Error("Ring(3):", m, e)
	}
	for _, n := range []int{0, -1, 65, 128, great, least} {
		if m, e := route.Line(n); e != api.ErrArg || !sameMap(m, api.Coupling{}) {
			t.Errorf("Line(%d): %v, error %d", n, m, e)
		}
		if m, e := route.Ring(n); e != api.ErrArg || !sameMap(m, api.Coupling{}) {
			t.Errorf("Ring(%d): %v, error %d", n, m, e)
		}
	}
}

// P20.2: grids, all of them, by columns and rows.
func TestGrids(t *testing.T) {
	for w := 1; w <= 64; w++ {
		for h := 1; h <= 64; h++ {
			m, e := route.Grid(w, h)
			if w*h > 64 {
				if e != api.ErrArg || !sameMap(m, api.Coupling{}) {
					t.Errorf("Grid(%d, %d): %v, error %d", w, h, m, e)
				}
				continue
			}
			wanted := api.Coupling{N: w * h}
			for y := range h {
				for x := range w {
					if x+1 < w {
						wanted.Pairs = append(wanted.Pairs, [2]int{y*w + x, y*w + x + 1})
					}
					if y+1 < h {
						wanted.Pairs = append(wanted.Pairs, [2]int{y*w + x, (y+1)*w + x})
					}
				}
			}
			if e != api.OK || !sameMap(m, wanted) || route.Check(m) != api.OK {
				t.Errorf("Grid(%d, %d): %v, error %d", w, h, m, e)
			}
		}
	}
	if m, e := route.Grid(3, 2); e != api.OK || !sameMap(m, sketch(t, 6, "0 1, 0 3, 1 2, 1 4, 2 5, 3 4, 4 5")) {
		t.Error("Grid(3, 2):", m, e)
	}
	for _, s := range [][2]int{{0, 0}, {0, 1}, {1, 0}, {-1, -1}, {-1, 1}, {1, -1}, {-8, -8}, {65, 1}, {1, 65}, {64, 2}, {2, 64}, {9, 8}, {13, 5}, {great, 1}, {1, great}, {great, great}, {least, least}, {least, 1}, {1 << 32, 1 << 32}, {1 << 62, 4}, {4, 1 << 62}, {0, 65}, {65, 0}} {
		if m, e := route.Grid(s[0], s[1]); e != api.ErrArg || !sameMap(m, api.Coupling{}) {
			t.Errorf("Grid(%d, %d): %v, error %d", s[0], s[1], m, e)
		}
	}
}

// P20.3: by hand: of several that are nearer the least is gone to, whatever the order of pairs, and each step anew.
func TestPaths(t *testing.T) {
	for _, w := range []struct {
		n           int
		pairs, path string
	}{
		{1, "", "0"},
		{3, "2 1, 0 1", "0 1 2"},
		{3, "2 1, 0 1", "2 1 0"},
		{3, "2 1, 0 1", "1"},
		{4, "0 2, 0 1, 3 2, 3 1", "0 1 3"},
		{4, "0 2, 0 1, 3 2, 3 1", "3 1 0"},
		{4, "0 2, 0 1, 3 2, 3 1", "1 0 2"},
		{4, "0 2, 0 1, 3 2, 3 1", "2 0 1"},
		{6, "0 1, 1 4, 4 5, 0 2, 2 3, 3 5", "0 1 4 5"},
		{6, "0 1, 1 4, 4 5, 0 2, 2 3, 3 5", "5 3 2 0"},
		{6, "5 4, 4 1, 1 0, 5 3, 3 2, 2 0, 1 3", "0 1 3 5"},
		{6, "0 1, 1 2, 2 5, 0 3, 3 5, 5 4", "0 3 5"},
		{5, "0 1, 1 2, 2 3, 3 4, 4 0", "0 4 3"},
		{5, "0 1, 1 2, 2 3, 3 4, 4 0", "1 0 4"},
		{4, "0 1, 1 2, 2 3, 0 3, 0 1, 1 0, 3 0", "1 0 3"},
	} {
		wanted := row(t, w.path)
		m := sketch(t, w.n, w.pairs)
		if l, e := pathOf(t, m, wanted[0], wanted[len(wanted)-1]); e != api.OK || !slices.Equal(l, wanted) {
			t.Errorf("%v: %v, error %d, not %v", w.pairs, l, e, wanted)
		}
	}
}

// P20.3: all places of maps, against the slow way.
func TestFarAndPathAtChance(t *testing.T) {
	chance := rand.New(rand.NewSource(2003))
	for _, m := range maps(chance, 600) {
		wanted := slowFar(m)
		l, e := farOf(t, m)
		if e != api.OK || !sameRows(l, wanted) {
			t.Fatalf("Far of %v: %v, error %d, not %v", m, l, e, wanted)
		}
		for range 60 {
			a, b := chance.Intn(m.N), chance.Intn(m.N)
			path := slowPath(m, wanted, a, b)
			if l, e := pathOf(t, m, a, b); e != api.OK || !slices.Equal(l, path) {
				t.Fatalf("Path of %v: %v, error %d, not %v", m, l, e, path)
			}
		}
	}
}

// P20.3: numbers that are no places.
func TestWrongPlaces(t *testing.T) {
	for _, n := range []int{1, 2, 5, 64} {
		for _, wrong := range []int{-1, n, n + 1, 65, 128, great, least} {
			for _, p := range [][2]int{{wrong, 0}, {0, wrong}, {wrong, wrong}, {n - 1, wrong}, {wrong, n - 1}} {
				if _, e := pathOf(t, chain(n), p[0], p[1]); e != api.ErrArg {
					t.Errorf("Path from %d to %d of %d: error %d", p[0], p[1], n, e)
				}
			}
		}
	}
}

// P20.7: Far is the same both ways, and never greater than by a third place; neighbours are one step apart; a path has as many steps as it says.
func TestFarFollows(t *testing.T) {
	chance := rand.New(rand.NewSource(2004))
	for _, m := range maps(chance, 300) {
		far, _ := farOf(t, m)
		for a := range m.N {
			for b := range m.N {
				if far[a][b] != far[b][a] || (far[a][b] == 0) != (a == b) || (far[a][b] == 1) != slowNear(m, a, b) {
					t.Fatalf("%v: %v from %d to %d", m, far, a, b)
				}
				c := chance.Intn(m.N)
				if far[a][b] > far[a][c]+far[c][b] {
					t.Fatalf("%v: %v from %d to %d by %d", m, far, a, b, c)
				}
			}
			b := chance.Intn(m.N)
			path, _ := pathOf(t, m, a, b)
			if len(path) != far[a][b]+1 || path[0] != a || path[len(path)-1] != b {
				t.Fatalf("%v: %v from %d to %d", m, path, a, b)
			}
			for i := 1; i < len(path); i++ {
				if !slowNear(m, path[i-1], path[i]) {
					t.Fatalf("%v: %v", m, path)
				}
			}
		}
	}
}

// P20.3, R9: in which order, how often and which way round pairs stand turns nothing.
func TestOrderOfPairs(t *testing.T) {
	chance := rand.New(rand.NewSource(2005))
	for _, m := range maps(chance, 200) {
		other := api.Coupling{N: m.N}
		for range 2 {
			for _, i := range chance.Perm(len(m.Pairs)) {
				other.Pairs = append(other.Pairs, [2]int{m.Pairs[i][1], m.Pairs[i][0]})
			}
		}
		x, _ := farOf(t, m)
		if y, e := farOf(t, other); e != api.OK || !sameRows(x, y) {
			t.Fatalf("%v: %v, not %v", other, y, x)
		}
		a, b := chance.Intn(m.N), chance.Intn(m.N)
		path, _ := pathOf(t, m, a, b)
		if l, e := pathOf(t, other, a, b); e != api.OK || !slices.Equal(path, l) {
			t.Fatalf("%v: %v, not %v", other, l, path)
		}
		c := drawnFor(chance, m.N)
		r := mustRoute(t, c, m)
		wantRoute(t, c, other, r)
		wantHome(t, r, other, mustHome(t, r, m))
	}
}
