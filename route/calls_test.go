package route_test

import (
	"testing"

	"phasor/api"
	"phasor/circuit"
	"phasor/route"
)

// Each call with what must hold whatever it is given: what is handed in is not changed, and beside an error there is nothing.

func farOf(t *testing.T, m api.Coupling) ([][]int, api.Errno) {
	t.Helper()
	ahead := deepMap(m)
	l, e := route.Far(m)
	if !sameMap(m, ahead) || e != api.OK && len(l) != 0 {
		t.Fatalf("Far of %v: %v, error %d, of %v", ahead, l, e, m)
	}
	return l, e
}

func pathOf(t *testing.T, m api.Coupling, a, b int) ([]int, api.Errno) {
	t.Helper()
	ahead := deepMap(m)
	l, e := route.Path(m, a, b)
	if !sameMap(m, ahead) || e != api.OK && len(l) != 0 {
		t.Fatalf("Path of %v: %v, error %d, of %v", ahead, l, e, m)
	}
	return l, e
}

func fitsOf(t *testing.T, c api.Circuit, m api.Coupling) (bool, api.Errno) {
	t.Helper()
	ahead, mapAhead := deep(c), deepMap(m)
	is, e := route.Fits(c, m)
	if !sameCircuit(c, ahead) || !sameMap(m, mapAhead) || e != api.OK && is {
		t.Fatalf("Fits of %v: %v, error %d, of %v, %v", ahead, is, e, c, m)
	}
	return is, e
}

func routeOf(t *testing.T, c api.Circuit, m api.Coupling) (api.Routed, api.Errno) {
	t.Helper()
	ahead, mapAhead := deep(c), deepMap(m)
	r, e := route.Route(c, m)
	wantRouted(t, "Route", r, e, m)
	if !sameCircuit(c, ahead) || !sameMap(m, mapAhead) {
		t.Fatalf("Route changed %v to %v, or %v to %v", ahead, c, mapAhead, m)
	}
	return r, e
}

func homeOf(t *testing.T, r api.Routed, m api.Coupling) (api.Routed, api.Errno) {
	t.Helper()
	ahead, mapAhead := deepRouted(r), deepMap(m)
	h, e := route.Home(r, m)
	wantRouted(t, "Home", h, e, m)
	if !sameRouted(r, ahead) || !sameMap(m, mapAhead) {
		t.Fatalf("Home changed %v to %v, or %v to %v", ahead, r, mapAhead, m)
	}
	return h, e
}

// wantRouted takes an answer to be nothing beside an error, and else a circuit that may be, of as many qubits as there are places.
func wantRouted(t *testing.T, name string, r api.Routed, e api.Errno, m api.Coupling) {
	t.Helper()
	if e != api.OK {
		if !sameRouted(r, api.Routed{}) {
			t.Fatalf("%s: %v beside error %d", name, r, e)
		}
		return
	}
	if _, e := circuit.Check(r.Circuit); e != api.OK || r.Circuit.Qubits != m.N {
		t.Fatalf("%s: what comes may not be: %v", name, r)
	}
}

// mustRoute is what Route answers that must not refuse.
func mustRoute(t *testing.T, c api.Circuit, m api.Coupling) api.Routed {
	t.Helper()
	r, e := routeOf(t, c, m)
	if e != api.OK {
		t.Fatalf("Route of %v onto %v: error %d", c, m, e)
	}
	return r
}

// mustHome is what Home answers that must not refuse.
func mustHome(t *testing.T, r api.Routed, m api.Coupling) api.Routed {
	t.Helper()
	h, e := homeOf(t, r, m)
	if e != api.OK {
		t.Fatalf("Home of %v on %v: error %d", r, m, e)
	}
	return h
}

func wantRoute(t *testing.T, c api.Circuit, m api.Coupling, wanted api.Routed) {
	t.Helper()
	if r := mustRoute(t, c, m); !sameRouted(r, wanted) {
		t.Fatalf("Route of %v onto %v: %v, not %v", c, m, r, wanted)
	}
}

func wantHome(t *testing.T, r api.Routed, m api.Coupling, wanted api.Routed) {
	t.Helper()
	if h := mustHome(t, r, m); !sameRouted(h, wanted) {
		t.Fatalf("Home of %v on %v: %v, not %v", r, m, h, wanted)
	}
}

func wantFits(t *testing.T, c api.Circuit, m api.Coupling, wanted bool) {
	t.Helper()
	if is, e := fitsOf(t, c, m); is != wanted || e != api.OK {
		t.Fatalf("Fits of %v, %v: %v, error %d", c, m, is, e)
	}
}

func refusesRoute(t *testing.T, what string, c api.Circuit, m api.Coupling, wanted api.Errno) {
	t.Helper()
	if _, e := routeOf(t, c, m); e != wanted {
		t.Errorf("Route of %s: error %d, not %d", what, e, wanted)
	}
}

func refusesHome(t *testing.T, what string, r api.Routed, m api.Coupling, wanted api.Errno) {
	t.Helper()
	if _, e := homeOf(t, r, m); e != wanted {
		t.Errorf("Home of %s: error %d, not %d", what, e, wanted)
	}
}
