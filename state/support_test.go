package state_test

import (
	"math/rand"
	"testing"

	"phasor/state"
)

type held struct {
	place     int
	amplitude complex128
}

func wantHeld(t *testing.T, what string, s, then []complex128) {
	t.Helper()
	var wanted []held
	for k, z := range then {
		if real(z) != 0 || imag(z) != 0 {
			wanted = append(wanted, held{k, z})
		}
	}
	all := state.Support(then)
	copy(then, s)
	for range 2 {
		var got []held
		for k, z := range all {
			got = append(got, held{k, z})
		}
		if len(got) != len(wanted) {
			t.Fatalf("%s: %d, not %d", what, len(got), len(wanted))
		}
		for i := range got {
			if got[i].place != wanted[i].place || !sameNumber(got[i].amplitude, wanted[i].amplitude) {
				t.Fatalf("%s: %v, not %v", what, got[i], wanted[i])
			}
		}
	}
}

// P9.5: places rise, amplitudes are as they were at the call, and it may be gone through twice.
func TestSupport(t *testing.T) {
	chance := rand.New(rand.NewSource(910))
	for _, s := range rows(chance) {
		later := odd(chance, len(s))
		wantHeld(t, "Support", later, s)
	}
	wantHeld(t, "of noughts", []complex128{1, 1, 1, 1}, []complex128{0, complex(minus0, 0), complex(0, minus0), complex(minus0, minus0)})
	wantHeld(t, "of NaN", []complex128{0, 0, 0, 0}, []complex128{complex(nan, 0), complex(0, nan), complex(minus0, 5e-324), -5e-324})
	wantHeld(t, "of one", []complex128{0}, []complex128{1i})
}

// P9.5: left early, and gone through again from the first on; two at a time know nothing of each other.
func TestSupportLeft(t *testing.T) {
	all := state.Support([]complex128{0, 1, 2, 0, 3, 4, 0, 5})
	for leave := range 6 {
		var l []int
		for k := range all {
			l = append(l, k)
			if len(l) > leave {
				break
			}
		}
		for i, k := range l {
			if len(l) != min(leave+1, 5) || k != []int{1, 2, 4, 5, 7}[i] {
				t.Errorf("left behind %d: %v", leave, l)
			}
		}
	}
	pairs := 0
	for k, y := range all {
		for j, z := range all {
			if (j == k) != (y == z) {
				t.Error(j, k, y, z)
			}
			pairs++
		}
	}
	if pairs != 25 {
		t.Error(pairs)
	}
}

// P9.5: the iterator stops calling once it was told to, and a state that is handed in is not changed.
func TestSupportStops(t *testing.T) {
	s := []complex128{1, 2, 3, 4}
	calls := 0
	state.Support(s)(func(int, complex128) bool {
		calls++
		return calls < 2
	})
	if calls != 2 || !sameRow(s, []complex128{1, 2, 3, 4}) {
		t.Error(calls, s)
	}
}
