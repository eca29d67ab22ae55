package circuit

import (
	"iter"

	"phasor/api"
)

// condition is the bit that gates hang on, and what it must be.
type condition struct {
	bit, when int
}

// arg is one element, or a whole register.
type arg struct {
	register
	whole bool
}

// at is what an arg is in the k-th call of a row.
func (a arg) at(k int) int {
	if a.whole {
		return a.from + k
	}
	return a.from
}

// each goes through the elements of an arg.
func (a arg) each() iter.Seq[int] {
	return func(yield func(int) bool) {
		for k := range a.size {
			if !yield(a.at(k)) {
				return
			}
		}
	}
}

// room refuses operations for which there is none.
func (r *reader) room(n int, first api.Token) error {
	if len(r.ops)+n > api.MaxOps {
		return refuse(api.ErrMany, first)
	}
	return nil
}

func (r *reader) conditional() error {
	if err := r.marks("("); err != nil {
		return err
	}
	reg, err := r.registerOf(r.bits)
	if err != nil {
		return err
	}
	bit, err := r.index(reg)
	if err != nil {
		return err
	}
	if err := r.marks("=="); err != nil {
		return err
	}
	when, err := r.number(0, 1)
	if err != nil {
		return err
	}
	if err := r.marks(")"); err != nil {
		return err
	}
	return r.call(r.take(), condition{bit: bit, when: when})
}

func (r *reader) call(first api.Token, on condition) error {
	g, err := r.callee(first)
	if err != nil {
		return err
	}
	args, err := r.args()
	if err != nil {
		return err
	}
	calls, ok := rowOfCalls(args)
	if !ok || len(args) != g.names {
		return refuse(api.ErrCall, first)
	}
	if err := r.room(len(calls)*g.ops, first); err != nil {
		return err
	}
	for _, qubits := range calls {
		r.ops = lay(r.ops, g.steps, qubits, on)
	}
	return nil
}

// rowOfCalls answers what each call of a row is given; false, if whole registers are not as long as one another, or one call is given a qubit twice.
func rowOfCalls(args []arg) ([][]int, bool) {
	n, ok := howMany(args)
	if !ok {
		return nil, false
	}
	calls := make([][]int, n)
	for k := range calls {
		qubits := func(yield func(int) bool) {
			for _, a := range args {
				if !yield(a.at(k)) {
					return
				}
			}
		}
		if calls[k], ok = once(qubits); !ok {
			return nil, false
		}
	}
	return calls, true
}

// howMany answers how many calls args are a row of: one, if all of them are elements.
func howMany(args []arg) (int, bool) {
	n := 0
	for _, a := range args {
		if !a.whole {
			continue
		}
		if n != 0 && n != a.size {
			return 0, false
		}
		n = a.size
	}
	return max(n, 1), true
}

func (r *reader) measure(first api.Token) error {
	from, err := r.arg(r.qubits)
	if err != nil {
		return err
	}
	if err := r.marks("->"); err != nil {
		return err
	}
	to, err := r.arg(r.bits)
	if err != nil {
		return err
	}
	if err := r.marks(";"); err != nil {
		return err
	}
	if from.whole != to.whole || from.size != to.size {
		return refuse(api.ErrCall, first)
	}
	if err := r.room(from.size, first); err != nil {
		return err
	}
	for k := range from.size {
		r.ops = append(r.ops, api.Op{Kind: api.OpMeasure, Qubits: []int{from.at(k)}, Bit: to.at(k), If: always})
	}
	return nil
}

func (r *reader) reset(first api.Token) error {
	a, err := r.arg(r.qubits)
	if err != nil {
		return err
	}
	if err := r.marks(";"); err != nil {
		return err
	}
	if err := r.room(a.size, first); err != nil {
		return err
	}
	for q := range a.each() {
		r.ops = append(r.ops, api.Op{Kind: api.OpReset, Qubits: []int{q}, If: always})
	}
	return nil
}

func (r *reader) barrier(first api.Token) error {
	args, err := r.args()
	if err != nil {
		return err
	}
	qubits, ok := once(func(yield func(int) bool) {
		for _, a := range args {
			for q := range a.each() {
				if !yield(q) {
					return
				}
			}
		}
	})
	if !ok {
		return refuse(api.ErrCall, first)
	}
	if err := r.room(1, first); err != nil {
		return err
	}
	r.ops = append(r.ops, api.Op{Kind: api.OpBarrier, Qubits: qubits, If: always})
	return nil
}
