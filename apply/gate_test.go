package apply_test

import (
	"math"
	"math/rand"
	"testing"

	"phasor/api"
	"phasor/apply"
	"phasor/gate"
)

// states holds rows of floats of all kinds.
func states(chance *rand.Rand, n int) [][]complex128 {
	return [][]complex128{odd(chance, 1<<n), tame(chance, 1<<n), exact(chance, 1<<n, chance.Intn(24))}
}

// P10.1, P10.2: every gate to the bit, of any floats, on any qubits in any order.
func TestGate(t *testing.T) {
	chance := rand.New(rand.NewSource(1001))
	for n := range 13 {
		for _, k := range gate.Kinds() {
			l := choices(n, gate.Arity(k))
			chance.Shuffle(len(l), func(i, j int) { l[i], l[j] = l[j], l[i] })
			for _, qubits := range l[:min(len(l), 1+240>>n)] {
				for _, s := range states(chance, n) {
					ahead := copied(s)
					got, e := apply.Gate(s, k, qubits)
					want(t, gate.Name(k), got, e, slowGate(s, k, qubits)...)
					if !sameRow(s, ahead) {
						t.Fatal(gate.Name(k), "changed its argument")
					}
				}
			}
		}
	}
}

// P10.1: all pairs of floats as parts of both amplitudes, of gates of one qubit.
func TestGateOfPairs(t *testing.T) {
	for _, k := range gate.Kinds() {
		if gate.Arity(k) != 1 {
			continue
		}
		for _, a := range floats() {
			for _, b := range floats() {
				for _, s := range [][]complex128{
					{complex(a, 0), complex(b, 0)}, {complex(a, 0), complex(0, b)}, {complex(0, a), complex(b, 0)}, {complex(0, a), complex(0, b)},
					{complex(a, b), complex(minus0, minus0)}, {complex(minus0, minus0), complex(a, b)}, {complex(a, b), complex(b, a)}, {complex(a, b), complex(-b, a)},
				} {
					got, e := apply.Gate(s, k, []int{0})
					want(t, gate.Name(k), got, e, slowGate(s, k, []int{0})...)
				}
			}
		}
	}
}

// P10.1: by hand: which index is whose, what stays with its sign and what is cleaned, that halves are rounded behind sums.
func TestGateByHand(t *testing.T) {
	none := complex(minus0, minus0)
	tiny := math.SmallestNonzeroFloat64
	most := math.MaxFloat64
	for _, c := range []struct {
		what   string
		k      api.GateKind
		qubits []int
		s      []complex128
		wanted []complex128
	}{
		{"id", api.GateI, []int{0}, []complex128{none, none}, []complex128{none, none}},
		{"x", api.GateX, []int{0}, []complex128{none, 2}, []complex128{2, 0}},
		{"x above", api.GateX, []int{1}, []complex128{1, 2, 3, 4}, []complex128{3, 4, 1, 2}},
		{"y", api.GateY, []int{0}, []complex128{1, 2i}, []complex128{2, 1i}},
		{"z", api.GateZ, []int{0}, []complex128{none, 1}, []complex128{none, -1}},
		{"s", api.GateS, []int{0}, []complex128{none, none}, []complex128{none, 0}},
		{"s of numbers", api.GateS, []int{0}, []complex128{1, 1 + 2i}, []complex128{1, -2 + 1i}},
		{"sdg", api.GateSdg, []int{0}, []complex128{1, 1 + 2i}, []complex128{1, 2 - 1i}},
		{"sx", api.GateV, []int{0}, []complex128{0, 1}, []complex128{0.5 - 0.5i, 0.5 + 0.5i}},
		{"sxdg", api.GateVdg, []int{0}, []complex128{1, 0}, []complex128{0.5 - 0.5i, 0.5 + 0.5i}},
		{"sy", api.GateW, []int{0}, []complex128{0, 1}, []complex128{-0.5 - 0.5i, 0.5 + 0.5i}},
		{"sydg", api.GateWdg, []int{0}, []complex128{1, 0}, []complex128{0.5 - 0.5i, -0.5 + 0.5i}},
		{"sydg of 1", api.GateWdg, []int{0}, []complex128{0, 1}, []complex128{0.5 - 0.5i, 0.5 - 0.5i}},
		{"cx, the control above", api.GateCX, []int{1, 0}, []complex128{1, 2, 3, 4}, []complex128{1, 2, 4, 3}},
		{"cx, the control below", api.GateCX, []int{0, 1}, []complex128{none, 2, none, none}, []complex128{none, 0, none, 2}},
		{"cy", api.GateCY, []int{0, 1}, []complex128{1, 2, 3, 4}, []complex128{1, complex(0, -4), 3, 2i}},
		{"cz", api.GateCZ, []int{1, 0}, []complex128{none, none, none, none}, []complex128{none, none, none, 0}},
		{"swap", api.GateSwap, []int{0, 1}, []complex128{none, none, none, none}, []complex128{none, 0, 0, none}},
		{"iswap", api.GateISw, []int{0, 1}, []complex128{1, 2, 3, 4}, []complex128{1, 3i, 2i, 4}},
		{"iswapdg", api.GateISwd, []int{0, 1}, []complex128{1, 2, 3, 4}, []complex128{1, complex(0, -3), complex(0, -2), 4}},
		{"hh", api.GateHH, []int{1, 0}, []complex128{0, 1, 0, 0}, []complex128{0.5, -0.5, 0.5, -0.5}},
		{"hh of rounded sums", api.GateHH, []int{0, 1}, []complex128{1 << 53, 1, -1 << 53, 1}, []complex128{0.5, -0.5, 1 << 53, 1 << 53}},
		{"ccx", api.GateCCX, []int{2, 0, 1}, []complex128{0, 1, 2, 3, 4, 5, 6, 7}, []complex128{0, 1, 2, 3, 4, 7, 6, 5}},
		{"ccz", api.GateCCZ, []int{2, 0, 1}, []complex128{0, 1, 2, 3, 4, 5, 6, 7}, []complex128{0, 1, 2, 3, 4, 5, 6, -7}},
		{"cswap", api.GateCSw, []int{1, 0, 2}, []complex128{0, 1, 2, 3, 4, 5, 6, 7}, []complex128{0, 1, 2, 6, 4, 5, 3, 7}},
		{"half of the least", api.GateV, []int{0}, []complex128{complex(-tiny, 0), 0}, []complex128{0, 0}},
		{"half of two of the least", api.GateW, []int{0}, []complex128{complex(tiny, 0), complex(tiny, 0)}, []complex128{0, complex(tiny, tiny)}},
		{"half of three of the least", api.GateV, []int{0}, []complex128{complex(3*tiny, 0), 0}, []complex128{complex(2*tiny, 2*tiny), complex(2*tiny, -2*tiny)}},
		{"too great a sum", api.GateV, []int{0}, []complex128{complex(most, 0), complex(most, 0)}, []complex128{complex(inf, 0), complex(inf, 0)}},
		{"infinities", api.GateX, []int{0}, []complex128{complex(inf, minus0), complex(nan, -inf)}, []complex128{complex(nan, -inf), complex(inf, 0)}},
		{"an infinity halved", api.GateHH, []int{0, 1}, []complex128{complex(inf, 1), 0, 0, 0}, []complex128{complex(inf, 0.5), complex(inf, 0.5), complex(inf, 0.5), complex(inf, 0.5)}},
	} {
		got, e := apply.Gate(c.s, c.k, c.qubits)
		want(t, c.what, got, e, c.wanted...)
	}
}

// refuser is a call that takes a gate.
type refuser func(s []complex128, k api.GateKind, qubits []int) ([]complex128, api.Errno)

// refuses holds what Gate refuses against what the promise names first.
func refuses(t *testing.T, call refuser) {
	t.Helper()
	for _, s := range wrongs() {
		for _, k := range []api.GateKind{api.GateX, 0, 21, -1, least, great} {
			for _, qubits := range [][]int{{0}, nil, {-1}, {0, 0}} {
				got, e := call(s, k, qubits)
				wantError(t, "no state", got, e, api.ErrState)
			}
		}
	}
	for n := range 13 {
		s := make([]complex128, 1<<n)
		s[0] = 1
		for _, k := range []api.GateKind{0, 21, 22, -1, least, great} {
			for _, qubits := range [][]int{{0}, nil, {-1}, {0, 0}, {0, 1, 2}} {
				got, e := call(s, k, qubits)
				wantError(t, "no gate", got, e, api.ErrGate)
			}
		}
		for _, k := range gate.Kinds() {
			for _, many := range []int{0, 1, 2, 3, 4, 12, 13, 64, 4096} {
				if many == gate.Arity(k) {
					continue
				}
				l := make([]int, many)
				for i := range l {
					l[i] = i
				}
				got, e := call(s, k, l)
				wantError(t, "another number of qubits", got, e, api.ErrWire)
			}
			for at := range gate.Arity(k) {
				for _, wrong := range []int{-1, n, n + 1, 63, 64, least, great, (at + 1) % 3} {
					l := []int{0, 1, 2}[:gate.Arity(k)]
					l[at] = wrong
					if wrong == (at+1)%3 && at+1 >= gate.Arity(k) {
						continue
					}
					got, e := call(s, k, l)
					wantError(t, "wrong qubits", got, e, api.ErrWire)
				}
			}
		}
	}
}

// P10.2: no state ahead of no gate ahead of wrong qubits.
func TestGateRefuses(t *testing.T) {
	refuses(t, apply.Gate)
}

// R3: an answer is new memory, where nothing is turned, too.
func TestGateAnswersNewMemory(t *testing.T) {
	for _, k := range gate.Kinds() {
		s := make([]complex128, 8, 16)
		s[0] = 1
		qubits := []int{0, 1, 2}[:gate.Arity(k)]
		got, _ := apply.Gate(s, k, qubits)
		again, _ := apply.Gate(s, k, qubits)
		hands, _ := apply.Hands(s, k, qubits, 2)
		for i := range got {
			got[i], hands[i] = 7, 8
		}
		if s[0] != 1 || s[1] != 0 || sameRow(got, again) || !sameRow(again, slowGate(s, k, qubits)) {
			t.Error(gate.Name(k), "shares memory")
		}
	}
}
