package circuit_test

import (
	"math"
	"math/rand"
	"slices"
	"testing"

	"phasor/api"
	"phasor/circuit"
)

// The numbers that the chapter gives.
func TestNumbers(t *testing.T) {
	if got := []int{api.MaxWires, api.MaxBits, api.MaxOps}; !slices.Equal(got, []int{64, 64, 4096}) {
		t.Error(got)
	}
	if got := []api.Errno{api.ErrArg, api.ErrCircuit, api.ErrSyntax, api.ErrUnknown, api.ErrTwice, api.ErrRange, api.ErrCall, api.ErrMany}; !slices.Equal(got, []api.Errno{2, 80, 81, 82, 83, 84, 85, 86}) {
		t.Error(got)
	}
}

// wantCheck holds Check to the place of a circuit's fault: 0 and OK, if none is wanted.
func wantCheck(t *testing.T, c api.Circuit, may bool, place int) {
	t.Helper()
	kept := deep(c)
	wanted := api.ErrCircuit
	if may {
		wanted, place = api.OK, 0
	}
	if at, e := circuit.Check(c); at != place || e != wanted {
		t.Errorf("%.400s: %d %d, not %d %d", tell(c), at, e, place, wanted)
	}
	wantCircuit(t, "what was handed in", c, kept)
}

// P8.1: the counts; they come ahead of the operations.
func TestCheckCounts(t *testing.T) {
	for _, n := range []int{math.MinInt, -2, -1, 0, 1, 63, 64, 65, 1 << 32, math.MaxInt} {
		may := n >= 0 && n <= 64
		wantCheck(t, of(n, 0), may, -1)
		wantCheck(t, of(0, n), may, -1)
		wantCheck(t, of(n, n), may, -1)
		wantCheck(t, of(n, 0, api.Op{}), false, firstPlace(may))
		wantCheck(t, of(0, n, api.Op{}), false, firstPlace(may))
	}
	x := do(api.GateX, 0)
	for _, n := range []int{1, 4095, 4096} {
		wantCheck(t, of(1, 0, repeated(n, x)...), true, 0)
		wantCheck(t, of(1, 0, append(repeated(n-1, x), do(api.GateX, 1))...), false, n-1)
	}
	wantCheck(t, of(1, 0, repeated(4097, x)...), false, -1)
	wantCheck(t, of(1, 0, repeated(4097, api.Op{})...), false, -1)
}

// firstPlace is the place of a fault in the first operation, or in the counts.
func firstPlace(counts bool) int {
	if counts {
		return 0
	}
	return -1
}

// allowed is P8.1 of one operation, word by word.
func allowed(op api.Op, qubits, bits int) bool {
	for i, q := range op.Qubits {
		if q < 0 || q >= qubits || slices.Contains(op.Qubits[i+1:], q) {
			return false
		}
	}
	plain := op.Gate == 0 && op.If == -1 && op.When == 0
	one := len(op.Qubits) == 1
	switch op.Kind {
	case 1:
		if op.Gate < 1 || op.Gate > 20 || len(op.Qubits) != gateLines()[op.Gate].qubits || op.Bit != 0 {
			return false
		}
		return op.If == -1 && op.When == 0 || op.If >= 0 && op.If < bits && (op.When == 0 || op.When == 1)
	case 2:
		return plain && one && op.Bit >= 0 && op.Bit < bits
	case 3:
		return plain && one && op.Bit == 0
	case 4:
		return plain && len(op.Qubits) > 0 && op.Bit == 0
	}
	return false
}

// P8.1: all operations of small numbers, in circuits of several counts.
func TestCheckOperations(t *testing.T) {
	lists := [][]int{nil, {}, {-1}, {0}, {1}, {2}, {0, 1}, {1, 0}, {0, 0}, {0, 2}, {-1, 0}, {2, 1, 0}, {0, 1, 0}, {1, 1, 2}, {0, 1, 2, 3}, {3, 0}, {math.MaxInt}, {math.MinInt, 1}}
	taken := 0
	for _, counts := range [][2]int{{0, 0}, {1, 0}, {2, 1}, {3, 2}, {4, 1}} {
		for kind := api.OpKind(-1); kind < 6; kind++ {
			for _, k := range []api.GateKind{-1, 0, 1, 2, 11, 17, 18, 20, 21} {
				for _, qubits := range lists {
					for _, rest := range rests() {
						op := api.Op{Kind: kind, Gate: k, Qubits: qubits, Bit: rest[0], If: rest[1], When: rest[2]}
						may := allowed(op, counts[0], counts[1])
						wantCheck(t, of(counts[0], counts[1], op), may, 0)
						if may {
							taken++
						}
					}
				}
			}
		}
	}
	if taken < 150 {
		t.Error(taken)
	}
}

// rests are numbers for a bit, for what a condition asks, and for what that must be.
func rests() [][3]int {
	var l [][3]int
	for bit := -1; bit < 3; bit++ {
		for on := -2; on < 3; on++ {
			for value := -1; value < 3; value++ {
				l = append(l, [3]int{bit, on, value})
			}
		}
	}
	return l
}

// P8.1: the first operation that may not be is told, wherever it stands and whatever stands behind it.
func TestCheckPlace(t *testing.T) {
	chance := rand.New(rand.NewSource(801))
	wrong := []api.Op{{}, do(0, 0), do(21, 0), do(api.GateX), do(api.GateX, 64), do(api.GateCX, 1, 1), do(api.GateCX, 1), reset(-1), reset(64), barrier(), barrier(1, 2, 1), measure(0, -1), measure(0, 64), measure(64, 0), when(64, 0, do(api.GateX, 0)), when(0, 2, do(api.GateX, 0)), when(0, 0, reset(0)), when(0, 1, measure(0, 0)), when(0, 0, barrier(0)), {Kind: 5, If: -1, Qubits: []int{0}}}
	for range 500 {
		c := someCircuit(chance)
		wantCheck(t, c, true, 0)
		if len(c.Ops) == 0 {
			continue
		}
		first := chance.Intn(len(c.Ops))
		for i := first; i < len(c.Ops); i += 1 + chance.Intn(5) {
			c.Ops[i] = wrong[chance.Intn(len(wrong))]
		}
		wantCheck(t, c, false, first)
	}
}

// P8.1: barriers over all of 64 qubits, and lists that are far too long.
func TestCheckLongLists(t *testing.T) {
	all := rand.New(rand.NewSource(802)).Perm(64)
	wantCheck(t, of(64, 0, barrier(all...)), true, 0)
	wantCheck(t, of(63, 0, barrier(all...)), false, 0)
	wantCheck(t, of(64, 0, barrier(append(all, 7)...)), false, 0)
	long := make([]int, 1<<16)
	for i := range long {
		long[i] = i
	}
	for _, op := range []api.Op{barrier(long...), do(api.GateX, long...), reset(0), measure(0, 0)} {
		op.Qubits = long
		wantCheck(t, of(64, 64, op), false, 0)
	}
}
