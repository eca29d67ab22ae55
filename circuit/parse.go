package circuit

import (
	"errors"
	"iter"
	"slices"

	"phasor/api"
	"phasor/token"
)

// Parse reads a circuit's text (P8.3).
func Parse(text string) (api.Circuit, api.Fault) {
	tokens, fault := token.Scan(text)
	if fault.Code != api.OK {
		return api.Circuit{}, fault
	}
	r := reader{declared: nothing(), tokens: tokens}
	var refused refusal
	if errors.As(r.program(), &refused) {
		return api.Circuit{}, refused.Fault
	}
	return api.Circuit{Qubits: r.qubits.size, Bits: r.bits.size, Ops: r.ops}, api.Fault{}
}

// program reads a whole text.
func (r *reader) program() error {
	if err := r.expect(api.TokenName, "OPENQASM"); err != nil {
		return err
	}
	if err := r.expect(api.TokenReal, "2.0"); err != nil {
		return err
	}
	if err := r.marks(";"); err != nil {
		return err
	}
	for r.tokens[0].Kind != api.TokenEnd {
		if err := r.statement(); err != nil {
			return err
		}
	}
	return nil
}

func (r *reader) statement() error {
	first := r.take()
	if first.Kind != api.TokenName {
		return refuse(api.ErrSyntax, first)
	}
	switch first.Text {
	case "include":
		return r.include()
	case "qreg":
		return r.newRegister(&r.qubits)
	case "creg":
		return r.newRegister(&r.bits)
	case "gate":
		return r.newDefine()
	case "if":
		return r.conditional()
	case "measure":
		return r.measure(first)
	case "reset":
		return r.reset(first)
	case "barrier":
		return r.barrier(first)
	}
	return r.call(first, condition{bit: always})
}

func (r *reader) include() error {
	if err := r.expect(api.TokenText, "qelib1.inc"); err != nil {
		return err
	}
	return r.marks(";")
}

func (r *reader) newRegister(b *bank) error {
	name, err := r.newName()
	if err != nil {
		return err
	}
	if err := r.marks("["); err != nil {
		return err
	}
	n, err := r.number(1, b.most-b.size)
	if err != nil {
		return err
	}
	b.add(name, n)
	return r.marks("]", ";")
}

// callee answers what the name of a call stands for.
func (r *reader) callee(name api.Token) (define, error) {
	if !isName(name) {
		return define{}, refuse(api.ErrSyntax, name)
	}
	g, ok := r.gateOf(name.Text)
	if !ok {
		return define{}, refuse(api.ErrUnknown, name)
	}
	return g, nil
}

// newDefine reads a define. Its name is given at its end: it is not ahead of its own body.
func (r *reader) newDefine() error {
	name, err := r.newName()
	if err != nil {
		return err
	}
	names, err := r.names()
	if err != nil {
		return err
	}
	if err := r.marks("{"); err != nil {
		return err
	}
	d := define{names: len(names)}
	for !r.stands("}") {
		if err := r.inner(&d, names); err != nil {
			return err
		}
	}
	r.defines[name] = d
	return r.marks("}")
}

// names reads the names of a define, and answers their numbers.
func (r *reader) names() (map[string]int, error) {
	numbers := map[string]int{}
	err := r.row(func() error {
		t, err := r.name()
		if err != nil {
			return err
		}
		if _, twice := numbers[t.Text]; twice {
			return refuse(api.ErrTwice, t)
		}
		numbers[t.Text] = len(numbers)
		return nil
	})
	return numbers, err
}

// inner reads a call, or a barrier, of a define's body.
func (r *reader) inner(d *define, names map[string]int) error {
	first := r.take()
	barrier := reads(first, api.TokenName, "barrier")
	var g define
	if !barrier {
		var err error
		if g, err = r.callee(first); err != nil {
			return err
		}
	}
	given, err := r.innerArgs(names)
	if err != nil {
		return err
	}
	if barrier {
		g = single(api.OpBarrier, 0, len(given))
	}
	if _, ok := once(slices.Values(given)); !ok || len(given) != g.names {
		return refuse(api.ErrCall, first)
	}
	if d.ops+g.ops > api.MaxOps {
		return refuse(api.ErrMany, first)
	}
	d.put(g, given)
	return nil
}

// innerArgs reads what a call of a body is given, up to its end.
func (r *reader) innerArgs(names map[string]int) ([]int, error) {
	var given []int
	err := r.row(func() error {
		t, err := r.name()
		if err != nil {
			return err
		}
		n, ok := names[t.Text]
		if !ok {
			return refuse(api.ErrUnknown, t)
		}
		given = append(given, n)
		return nil
	})
	if err != nil {
		return nil, err
	}
	return given, r.marks(";")
}

// once gathers numbers as long as none comes a second time; then it gives up at once, as there may be very many more.
func once(numbers iter.Seq[int]) ([]int, bool) {
	var l []int
	seen := map[int]int{}
	for x := range numbers {
		seen[x]++
		if seen[x] > 1 {
			return nil, false
		}
		l = append(l, x)
	}
	return l, true
}
