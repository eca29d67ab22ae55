package apply_test

import (
	"math/rand"
	"runtime"
	"sync"
	"testing"
	"time"

	"phasor/api"
	"phasor/apply"
	"phasor/gate"
)

// P10.3: by any number of hands the answer is Gate's, more hands than groups, and hands that share them unevenly, too.
func TestHands(t *testing.T) {
	chance := rand.New(rand.NewSource(1002))
	for _, n := range []int{1, 2, 3, 4, 7, 12} {
		for _, k := range gate.Kinds() {
			if gate.Arity(k) > n {
				continue
			}
			for hands := 1; hands <= 64; hands++ {
				if n > 4 && hands > 5 && hands%9 != 1 {
					continue
				}
				qubits := chance.Perm(n)[:gate.Arity(k)]
				for _, s := range states(chance, n) {
					ahead := copied(s)
					wanted, _ := apply.Gate(s, k, qubits)
					got, e := apply.Hands(s, k, qubits, hands)
					want(t, gate.Name(k), got, e, wanted...)
					if !sameRow(s, ahead) {
						t.Fatal(gate.Name(k), "changed its argument")
					}
				}
			}
		}
	}
}

// P10.3: hands out of range ahead of all else; then what Gate refuses.
func TestHandsRefuse(t *testing.T) {
	for _, hands := range []int{0, -1, 65, 66, 128, least, great} {
		for _, s := range append(wrongs(), []complex128{1, 0}) {
			for _, k := range []api.GateKind{api.GateX, 0} {
				for _, qubits := range [][]int{{0}, {5}, nil} {
					got, e := apply.Hands(s, k, qubits, hands)
					wantError(t, "hands", got, e, api.ErrArg)
				}
			}
		}
	}
	for _, hands := range []int{1, 2, 64} {
		refuses(t, func(s []complex128, k api.GateKind, qubits []int) ([]complex128, api.Errno) {
			return apply.Hands(s, k, qubits, hands)
		})
	}
}

// P10.3: calls at the same time on the same state do not meet, and none of their hands is left behind.
func TestHandsAtOnce(t *testing.T) {
	chance := rand.New(rand.NewSource(1003))
	s := tame(chance, 1<<10)
	ahead := runtime.NumGoroutine()
	var callers sync.WaitGroup
	for range 16 {
		o := anyOp(chance, 10)
		callers.Add(1)
		go func() {
			defer callers.Done()
			for hands := 1; hands <= 64; hands += 7 {
				got, e := apply.Hands(s, o.Gate, o.Qubits, hands)
				want(t, gate.Name(o.Gate), got, e, slowGate(s, o.Gate, o.Qubits)...)
			}
		}()
	}
	callers.Wait()
	for wait := 0; runtime.NumGoroutine() > ahead; wait++ {
		if wait > 1000 {
			t.Fatal(runtime.NumGoroutine()-ahead, "goroutines are left")
		}
		time.Sleep(time.Millisecond)
	}
}
