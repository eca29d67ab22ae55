package circuit

import (
	"strconv"

	"phasor/api"
)

// refusal is what a reader gives up with.
type refusal struct {
	api.Fault
}

func (r refusal) Error() string {
	return "circuit: error " + strconv.Itoa(int(r.Code)) + " at byte " + strconv.Itoa(r.At.Off)
}

func refuse(code api.Errno, t api.Token) error {
	return refusal{api.Fault{Code: code, At: t.At}}
}

// reader goes through tokens, with what they have declared and the operations that they have come to.
type reader struct {
	declared
	tokens []api.Token
	ops    []api.Op
}

// take takes the next token; the end stays.
func (r *reader) take() api.Token {
	t := r.tokens[0]
	if t.Kind != api.TokenEnd {
		r.tokens = r.tokens[1:]
	}
	return t
}

// stands tells whether a mark is next.
func (r *reader) stands(text string) bool { return reads(r.tokens[0], api.TokenMark, text) }

func reads(t api.Token, kind api.TokenKind, text string) bool {
	return t.Kind == kind && t.Text == text
}

// expect takes a token that must read so.
func (r *reader) expect(kind api.TokenKind, text string) error {
	if t := r.take(); !reads(t, kind, text) {
		return refuse(api.ErrSyntax, t)
	}
	return nil
}

// marks takes marks, one behind the other.
func (r *reader) marks(texts ...string) error {
	for _, text := range texts {
		if err := r.expect(api.TokenMark, text); err != nil {
			return err
		}
	}
	return nil
}

// name takes a name that is not reserved.
func (r *reader) name() (api.Token, error) {
	t := r.take()
	if !isName(t) {
		return api.Token{}, refuse(api.ErrSyntax, t)
	}
	return t, nil
}

func isName(t api.Token) bool { return t.Kind == api.TokenName && !reserved(t.Text) }

func reserved(word string) bool {
	switch word {
	case "OPENQASM", "include", "qreg", "creg", "gate", "if", "measure", "reset", "barrier", "opaque":
		return true
	}
	return false
}

// newName takes a name that stands for nothing as yet.
func (r *reader) newName() (string, error) {
	t, err := r.name()
	if err != nil {
		return "", err
	}
	if r.taken(t.Text) {
		return "", refuse(api.ErrTwice, t)
	}
	return t.Text, nil
}

// number takes a number of at least least and at most most.
func (r *reader) number(least, most int) (int, error) {
	t := r.take()
	if t.Kind != api.TokenInt {
		return 0, refuse(api.ErrSyntax, t)
	}
	if t.Int < least || t.Int > most {
		return 0, refuse(api.ErrRange, t)
	}
	return t.Int, nil
}

// row reads one thing, and one more behind each comma.
func (r *reader) row(one func() error) error {
	for {
		if err := one(); err != nil {
			return err
		}
		if !r.stands(",") {
			return nil
		}
		r.take()
	}
}

// registerOf takes the name of a bank's register.
func (r *reader) registerOf(b bank) (register, error) {
	t, err := r.name()
	if err != nil {
		return register{}, err
	}
	if !b.has(t.Text) {
		return register{}, refuse(api.ErrUnknown, t)
	}
	return b.registers[t.Text], nil
}

// index takes an index in its brackets, and answers which of the bank's it is.
func (r *reader) index(of register) (int, error) {
	if err := r.marks("["); err != nil {
		return 0, err
	}
	i, err := r.number(0, of.size-1)
	if err != nil {
		return 0, err
	}
	return of.from + i, r.marks("]")
}

// arg takes an arg: a register, or one element of it.
func (r *reader) arg(b bank) (arg, error) {
	reg, err := r.registerOf(b)
	if err != nil || !r.stands("[") {
		return arg{register: reg, whole: true}, err
	}
	i, err := r.index(reg)
	return arg{register: register{from: i, size: 1}}, err
}

// args takes args up to the end of what they are given to.
func (r *reader) args() ([]arg, error) {
	var l []arg
	err := r.row(func() error {
		a, err := r.arg(r.qubits)
		l = append(l, a)
		return err
	})
	if err != nil {
		return nil, err
	}
	return l, r.marks(";")
}
