package route_test

import (
	"math/rand"
	"slices"
	"testing"

	"phasor/api"
	"phasor/circuit"
	"phasor/gate"
	"phasor/plane"
	"phasor/route"
	"phasor/run"
)

func same(a, b []complex128) bool { return slices.EqualFunc(a, b, plane.Same) }

// spread is a state laid onto n places: qubit q at place[q], all other places 0.
func spread(s []complex128, place []int, n int) []complex128 {
	l := make([]complex128, 1<<n)
	for k, z := range s {
		to := 0
		for q, p := range place {
			to |= k >> q & 1 << p
		}
		l[to] = z
	}
	return l
}

// chances are numbers to be handed in, some of them at the turns.
func chances(chance *rand.Rand, n int) []float64 {
	l := make([]float64, n)
	for i := range l {
		l[i] = []float64{0, 0.25, 0.5, 0.75, chance.Float64(), chance.Float64()}[chance.Intn(6)]
	}
	return l
}

// wantSameRun takes what was laid out to run as the circuit does: the same bits, values, weights, and the same state, spread.
func wantSameRun(t *testing.T, c api.Circuit, r api.Routed, us []float64) {
	t.Helper()
	x, e := run.Run(c, us)
	y, f := run.Run(r.Circuit, us)
	if e != api.OK || f != api.OK {
		t.Fatal("Run:", e, f)
	}
	if !slices.Equal(x.Bits, y.Bits) || x.Used != y.Used || len(x.Log) != len(y.Log) {
		t.Fatalf("%v laid out as %v: %v, not %v", c, r, y, x)
	}
	for i, a := range x.Log {
		b := y.Log[i]
		if a.Value != b.Value || a.Bit != b.Bit || a.Zero != b.Zero || a.One != b.One {
			t.Fatalf("%v laid out as %v: %v, not %v", c, r, b, a)
		}
	}
	if !same(y.State, spread(x.State, r.Place, r.Circuit.Qubits)) {
		t.Fatalf("%v laid out as %v: %v, not %v", c, r, y.State, x.State)
	}
}

// P20.7, W6: what Route answers fits, and does the same; so does what Home answers.
func TestLaidOutDoesTheSame(t *testing.T) {
	chance := rand.New(rand.NewSource(2010))
	swaps, halves := 0, 0
	for i := range 1500 {
		n := 1 + chance.Intn(6)
		if i%50 == 0 {
			n = 7 + chance.Intn(6)
		}
		w := wish{qubits: chance.Intn(n + 1), bits: chance.Intn(5), ops: chance.Intn(120), halves: api.MaxHalves, measures: chance.Intn(8)}
		if chance.Intn(2) == 0 {
			w.qubits = n
		}
		c, m := w.drawn(chance), drawnMap(chance, n)
		r := mustRoute(t, c, m)
		wantFits(t, r.Circuit, m, true)
		us := chances(chance, 8)
		wantSameRun(t, c, r, us)
		h := mustHome(t, r, m)
		wantFits(t, h.Circuit, m, true)
		wantSameRun(t, c, h, us)
		swaps += r.Swaps
		halves = max(halves, circuit.Halves(c))
	}
	if swaps < 3000 || halves != api.MaxHalves {
		t.Error("too few swaps, or halves:", swaps, halves)
	}
}

// P20.7: on the maps that this layer makes, too.
func TestLaidOutOnMadeMaps(t *testing.T) {
	chance := rand.New(rand.NewSource(2011))
	line, _ := route.Line(9)
	ring, _ := route.Ring(9)
	grid, _ := route.Grid(3, 3)
	for _, m := range []api.Coupling{line, ring, grid} {
		for range 60 {
			c := wish{qubits: chance.Intn(10), bits: 4, ops: 40, halves: api.MaxHalves, measures: 6}.drawn(chance)
			r, us := mustRoute(t, c, m), chances(chance, 6)
			wantFits(t, r.Circuit, m, true)
			wantSameRun(t, c, r, us)
			wantSameRun(t, c, mustHome(t, r, m), us)
		}
	}
}

// P20.7: without the swaps that were put in, and with qubits in the place of places, what Route answers is the circuit; also where there are more qubits than a state has.
func TestLaidOutReadsBack(t *testing.T) {
	chance := rand.New(rand.NewSource(2012))
	for _, m := range maps(chance, 1500) {
		c := drawnFor(chance, m.N)
		r := mustRoute(t, c, m)
		wantFits(t, r.Circuit, m, true)
		if len(r.Circuit.Ops) != len(c.Ops)+r.Swaps || r.Circuit.Bits != c.Bits {
			t.Fatalf("%v: %v", c, r)
		}
		at, next := first(m.N), 0 // which qubit is at each place
		for _, op := range r.Circuit.Ops {
			op.Qubits = slices.Clone(op.Qubits)
			places := slices.Clone(op.Qubits)
			for i, p := range places {
				op.Qubits[i] = at[p]
			}
			if next < len(c.Ops) && sameOp(op, c.Ops[next]) {
				next++
				continue
			}
			if op.Kind != api.OpGate || op.Gate != api.GateSwap || op.If != -1 {
				t.Fatalf("%v: %v", c, r)
			}
			at[places[0]], at[places[1]] = at[places[1]], at[places[0]]
		}
		for q, p := range r.Place {
			if at[p] != q {
				t.Fatalf("%v: %v", c, r)
			}
		}
		if next != len(c.Ops) || len(r.Place) != c.Qubits {
			t.Fatalf("%v: %v", c, r)
		}
	}
}

// P20.7: what fits is laid out as it is.
func TestFittingStays(t *testing.T) {
	chance := rand.New(rand.NewSource(2013))
	for _, m := range maps(chance, 1000) {
		r := mustRoute(t, drawnFor(chance, m.N), m)
		wantRoute(t, r.Circuit, m, api.Routed{Circuit: r.Circuit, Place: first(m.N)})
	}
}

// R3: lists are the caller's own; nil and empty lists are the same.
func TestOwnLists(t *testing.T) {
	chance := rand.New(rand.NewSource(2014))
	shared := []int{1, 0, 2}
	for i, m := range maps(chance, 300) {
		c := drawnFor(chance, m.N)
		if i == 3 {
			c = of(3, 0, do(api.GateCX, shared[:2]...), barrier(shared...), do(api.GateCX, shared[1:]...), do(api.GateX, shared[1:2]...))
		}
		kept, mapKept := deep(c), deepMap(m)
		r := mustRoute(t, c, m)
		routed := deepRouted(r)
		h := mustHome(t, r, m)
		home := deepRouted(h)
		spoil(t, h)
		if !sameRouted(r, routed) {
			t.Fatal("Home and what it was given share memory")
		}
		spoil(t, r)
		rows, _ := farOf(t, m)
		spoilRows(t, rows)
		path, _ := pathOf(t, m, 0, m.N-1)
		spoilRows(t, [][]int{path})
		if !sameCircuit(c, kept) || !sameMap(m, mapKept) {
			t.Fatal("what was handed in was changed")
		}
		wantRoute(t, c, m, routed)
		wantHome(t, routed, m, home)
	}
	for _, empty := range []api.Circuit{{Qubits: 2}, {Qubits: 2, Ops: []api.Op{}}} {
		for _, m := range []api.Coupling{{N: 1}, {N: 1, Pairs: [][2]int{}}} {
			refusesRoute(t, "two qubits", empty, m, api.ErrRoute)
			empty.Qubits = 1
			wantRoute(t, empty, m, api.Routed{Circuit: of(1, 0), Place: first(1)})
			empty.Qubits = 2
		}
		wantHome(t, api.Routed{Circuit: empty, Place: []int{}}, chain(2), api.Routed{Circuit: of(2, 0)})
		wantHome(t, api.Routed{Circuit: empty}, chain(2), api.Routed{Circuit: of(2, 0)})
	}
}

// spoil writes into all lists of an answer, and takes no two to share memory.
func spoil(t *testing.T, r api.Routed) {
	t.Helper()
	rows := [][]int{r.Place}
	for _, op := range r.Circuit.Ops {
		rows = append(rows, op.Qubits)
	}
	spoilRows(t, rows)
	clear(r.Circuit.Ops)
	_ = append(r.Circuit.Ops, api.Op{Kind: 9})
}

func spoilRows(t *testing.T, rows [][]int) {
	t.Helper()
	for i, l := range rows {
		for j := range l {
			l[j] = 1000*i + j
		}
		_ = append(l, -7, -7, -7)
	}
	for i, l := range rows {
		for j, n := range l {
			if n != 1000*i+j {
				t.Fatalf("list %d and another share memory", i)
			}
		}
	}
}

// R3, R4: maps that are made know nothing of one another.
func TestOwnMaps(t *testing.T) {
	for _, f := range []func() (api.Coupling, api.Errno){
		func() (api.Coupling, api.Errno) { return route.Line(5) },
		func() (api.Coupling, api.Errno) { return route.Ring(5) },
		func() (api.Coupling, api.Errno) { return route.Grid(2, 3) },
	} {
		m, _ := f()
		kept := deepMap(m)
		clear(m.Pairs)
		if other, e := f(); e != api.OK || !sameMap(other, kept) {
			t.Error("another:", other, e)
		}
	}
}

// FuzzRoute is P20.1 to P20.6 of maps, circuits and places that come from bytes, which need not be right: against the slow way.
func FuzzRoute(f *testing.F) {
	f.Add(4, []byte{0, 1, 1, 2, 2, 3}, 4, []byte{11, 0, 3, 0}, []byte{2, 0, 1, 3})
	f.Add(4, []byte{0, 1, 1, 3, 3, 2}, 3, []byte{2, 1, 0, 0, 11, 0, 2, 0}, []byte{3, 0, 2})
	f.Add(3, []byte{0, 1}, 1, []byte{2, 0, 0, 0}, []byte{0})
	f.Add(3, []byte{0, 1, 1, 2}, 3, []byte{18, 0, 1, 2}, []byte{1, 1})
	f.Add(64, []byte{}, 64, []byte{43, 0, 63, 0, 140, 1, 0, 2, 41, 5, 1, 0}, []byte{63})
	f.Add(5, []byte{0, 2, 0, 1, 3, 2, 3, 1, 4, 0, 4, 0, 0, 4}, 5, []byte{13, 4, 3, 0, 145, 2, 1, 0, 42, 0, 0, 0, 17, 0, 3, 0}, []byte{4, 2})
	f.Fuzz(func(t *testing.T, n int, couples []byte, qubits int, l, list []byte) {
		m := api.Coupling{N: n % 70}
		for at := 0; at+2 <= len(couples); at += 2 {
			m.Pairs = append(m.Pairs, [2]int{int(couples[at]), int(couples[at+1])})
		}
		c := of(qubits%66, 4)
		for at := 0; at+4 <= len(l) && len(c.Ops) < 100; at += 4 {
			c.Ops = append(c.Ops, byteOp([4]byte(l[at:])))
		}
		var place []int
		for _, b := range list {
			place = append(place, int(b))
		}
		wantAsSlow(t, c, m, place)
	})
}

// wantAsSlow holds all calls against the slow way, whatever is handed in.
func wantAsSlow(t *testing.T, c api.Circuit, m api.Coupling, place []int) {
	t.Helper()
	if !slowRight(m) {
		refusesRoute(t, "a wrong map", c, m, api.ErrMap)
		refusesHome(t, "a wrong map", api.Routed{Circuit: c, Place: place}, m, api.ErrMap)
		return
	}
	if l, e := farOf(t, m); e != api.OK || !sameRows(l, slowFar(m)) {
		t.Fatalf("Far of %v: %v, error %d", m, l, e)
	}
	if _, e := circuit.Check(c); e != api.OK {
		refusesRoute(t, "a wrong circuit", c, m, api.ErrCircuit)
		refusesHome(t, "a wrong circuit", api.Routed{Circuit: c, Place: place}, m, api.ErrRoute)
		return
	}
	wantFits(t, c, m, slowFits(c, m))
	if wanted, ok := slowRoute(c, m); ok {
		wantRoute(t, c, m, wanted)
	} else {
		refusesRoute(t, "what cannot be laid out", c, m, api.ErrRoute)
	}
	r := api.Routed{Circuit: c, Place: place, Swaps: 3}
	if !slowHomely(r, m) {
		refusesHome(t, "what has no home", r, m, api.ErrRoute)
	} else if wanted, ok := slowHome(r, m); ok {
		wantHome(t, r, m, wanted)
	} else {
		refusesHome(t, "what becomes too long", r, m, api.ErrRoute)
	}
}

// byteOp is an operation of four bytes: the first says what, and whether there is a condition; the others are qubits, or a bit.
func byteOp(b [4]byte) api.Op {
	p, q, r := int(b[1]), int(b[2]), int(b[3])
	switch what := int(b[0]); {
	case what%64 == 41:
		return measure(p, q)
	case what%64 == 42:
		return reset(p)
	case what%64 == 43:
		return barrier(p, q)
	case what >= 128:
		return when(r%4, what%2, byteGate(what%22, p, q, r))
	default:
		return byteGate(what%22, p, q, r)
	}
}

func byteGate(k int, qubits ...int) api.Op {
	return do(api.GateKind(k), qubits[:min(gate.Arity(api.GateKind(k)), 3)]...)
}
