package odds_test

import (
	"math/rand"
	"testing"

	"phasor/api"
	"phasor/odds"
)

// slowProject puts noughts in; slowSettle exchanges behind that, pair by pair.
func slowProject(s []complex128, qubit, value int) []complex128 {
	l := copied(s)
	for place := range l {
		if (place&(1<<qubit) != 0) != (value == 1) {
			l[place] = 0
		}
	}
	return l
}

func slowSettle(s []complex128, qubit, value int) []complex128 {
	l := slowProject(s, qubit, value)
	if value == 0 {
		return l
	}
	for place := range l {
		if place&(1<<qubit) != 0 {
			other := place - 1<<qubit
			l[place], l[other] = l[other], l[place]
		}
	}
	return l
}

// P11.4: each qubit, both values, of any floats: what stays is the same, signs of noughts and NaN too.
func TestProjectAndSettle(t *testing.T) {
	chance := rand.New(rand.NewSource(1105))
	for n := range 13 {
		for range 1 + 100>>n {
			for _, s := range states(chance, n) {
				ahead := copied(s)
				for q := range n {
					for v := range 2 {
						l, e := odds.Project(s, q, v)
						want(t, "Project", l, e, slowProject(s, q, v)...)
						l, e = odds.Settle(s, q, v)
						want(t, "Settle", l, e, slowSettle(s, q, v)...)
					}
				}
				if !sameRow(s, ahead) {
					t.Fatal("the argument was changed")
				}
			}
		}
	}
}

// P11.4: by hand: signs of noughts that stay, and those that come.
func TestProjectByHand(t *testing.T) {
	none := complex(minus0, minus0)
	odd := []complex128{none, complex(nan, minus0), complex(inf, 1), complex(minus0, -inf)}
	even := []complex128{1, 2, 3, 4, 5, 6, 7, 8}
	for _, c := range []struct {
		what             string
		s                []complex128
		qubit, value     int
		project, settled []complex128
	}{
		{"noughts to 0", []complex128{none, none}, 0, 0, []complex128{none, 0}, []complex128{none, 0}},
		{"noughts to 1", []complex128{none, none}, 0, 1, []complex128{0, none}, []complex128{none, 0}},
		{"odd floats to 0", odd, 0, 0, []complex128{none, 0, complex(inf, 1), 0}, []complex128{none, 0, complex(inf, 1), 0}},
		{"odd floats to 1", odd, 1, 1, []complex128{0, 0, complex(inf, 1), complex(minus0, -inf)}, []complex128{complex(inf, 1), complex(minus0, -inf), 0, 0}},
		{"qubit 0 to 1", even, 0, 1, []complex128{0, 2, 0, 4, 0, 6, 0, 8}, []complex128{2, 0, 4, 0, 6, 0, 8, 0}},
		{"qubit 1 to 0", even, 1, 0, []complex128{1, 2, 0, 0, 5, 6, 0, 0}, []complex128{1, 2, 0, 0, 5, 6, 0, 0}},
		{"qubit 1 to 1", even, 1, 1, []complex128{0, 0, 3, 4, 0, 0, 7, 8}, []complex128{3, 4, 0, 0, 7, 8, 0, 0}},
		{"qubit 2 to 1", even, 2, 1, []complex128{0, 0, 0, 0, 5, 6, 7, 8}, []complex128{5, 6, 7, 8, 0, 0, 0, 0}},
		{"what is not there", []complex128{1, 0}, 0, 1, []complex128{0, 0}, []complex128{0, 0}},
	} {
		l, e := odds.Project(c.s, c.qubit, c.value)
		want(t, "Project: "+c.what, l, e, c.project...)
		l, e = odds.Settle(c.s, c.qubit, c.value)
		want(t, "Settle: "+c.what, l, e, c.settled...)
	}
}

// P11.4: no states ahead of no qubits and no values.
func TestProjectRefuses(t *testing.T) {
	refuse := func(s []complex128, q, v int, wanted api.Errno) {
		t.Helper()
		if l, e := odds.Project(s, q, v); e != wanted || len(l) != 0 {
			t.Errorf("Project of %d amplitudes, qubit %d, value %d: %d amplitudes, %d", len(s), q, v, len(l), e)
		}
		if l, e := odds.Settle(s, q, v); e != wanted || len(l) != 0 {
			t.Errorf("Settle of %d amplitudes, qubit %d, value %d: %d amplitudes, %d", len(s), q, v, len(l), e)
		}
	}
	noValues := []int{-1, 2, 3, -2, 64, 256, 257, least, least + 1, great}
	for _, s := range wrongs() {
		for _, q := range append(noQubits(2), 0, 1) {
			for _, v := range append(noValues, 0, 1) {
				refuse(s, q, v, api.ErrState)
			}
		}
	}
	for n := range 13 {
		s := make([]complex128, 1<<n)
		for _, q := range noQubits(n) {
			if q >= 0 && q < n {
				continue
			}
			for _, v := range append(noValues, 0, 1) {
				refuse(s, q, v, api.ErrOdds)
			}
		}
		for q := range n {
			for _, v := range noValues {
				refuse(s, q, v, api.ErrOdds)
			}
		}
	}
}

// R3: projected states are new memory, even where nothing is taken away.
func TestProjectedIsNew(t *testing.T) {
	s := []complex128{1, 0, 2i, 0}
	for what, call := range map[string]func() ([]complex128, api.Errno){
		"Project": func() ([]complex128, api.Errno) { return odds.Project(s, 0, 0) },
		"Settle":  func() ([]complex128, api.Errno) { return odds.Settle(s, 0, 0) },
	} {
		first, e := call()
		want(t, what, first, e, s...)
		first[0], first[3] = 99, 99
		second, e := call()
		want(t, what+" once more", second, e, 1, 0, 2i, 0)
	}
	want(t, "what was handed in", s, api.OK, 1, 0, 2i, 0)
}
