package circuit_test

import (
	"regexp"
	"slices"
	"strings"

	"phasor/api"
	"phasor/token"
)

// The grammar as a pattern of letters, one for each token.
const (
	argForm  = `n(?:\[d\])?`
	argsForm = argForm + `(?:,` + argForm + `)*`
)

var grammar = regexp.MustCompile(`^OV;(?:iT;|[qc]n\[d\];|gnn(?:,n)*\{(?:[nb]n(?:,n)*;)*\}|(?:f\(n\[d\]=d\))?n` + argsForm + `;|m` + argForm + `>` + argForm + `;|r` + argForm + `;|b` + argsForm + `;)*$`)

// letterOf is a token's letter; ? is one that stands nowhere.
func letterOf(t api.Token) string {
	switch t.Kind {
	case api.TokenName:
		i := slices.Index(reservedWords(), t.Text)
		if i < 0 {
			return "n"
		}
		return "OiqcgfmrbP"[i : i+1]
	case api.TokenInt:
		return "d"
	case api.TokenReal:
		return map[bool]string{true: "V", false: "?"}[t.Text == "2.0"]
	case api.TokenText:
		return map[bool]string{true: "T", false: "?"}[t.Text == "qelib1.inc"]
	case api.TokenMark:
		return strings.NewReplacer("->", ">", "==", "=").Replace(t.Text)
	}
	return "."
}

// goesOn tells whether letters begin a text of the grammar: whether the rest of some statement makes one of them.
func goesOn(letters string) bool {
	for _, statement := range []string{"OV;", "iT;", "qn[d];", "gnn{nn;}", "f(n[d]=d)nn[d];", "mn[d]>n[d];"} {
		for i := range len(statement) + 1 {
			if grammar.MatchString(letters + statement[i:]) {
				return true
			}
		}
	}
	return false
}

// slow is a reader that knows from the pattern how far the grammar goes, and looks at tokens by their places.
type slow struct {
	l          []api.Token
	letters    string
	stop       int
	owner      map[string]byte
	from, size map[string]int
	bodies     map[string][]api.Op
	sum        map[byte]int
	circuit    api.Circuit
}

// slowly is Parse.
func slowly(text string) (c api.Circuit, f api.Fault) {
	l, f := token.Scan(text)
	if f.Code != api.OK {
		return api.Circuit{}, f
	}
	s := &slow{l: l, owner: map[string]byte{}, from: map[string]int{}, size: map[string]int{}, bodies: map[string][]api.Op{}, sum: map[byte]int{}}
	for _, t := range l {
		s.letters += letterOf(t)
	}
	s.stop = s.firstWrong()
	for k, line := range gateLines()[1:] {
		s.owner[line.name], s.size[line.name] = 'g', line.qubits
		s.bodies[line.name] = []api.Op{do(api.GateKind(k+1), []int{0, 1, 2}[:line.qubits]...)}
	}
	defer func() {
		switch x := recover().(type) {
		case nil:
		case api.Fault:
			c, f = api.Circuit{}, x
		default:
			panic(x)
		}
	}()
	for i := s.see(2) + 1; s.letters[s.see(i)] != '.'; {
		i = s.statement(i) + 1
	}
	s.circuit.Qubits, s.circuit.Bits = s.sum['q'], s.sum['c']
	return s.circuit, api.Fault{}
}

// firstWrong is the place of the first token that may not stand there; past the end, if there is none.
func (s *slow) firstWrong() int {
	end := len(s.letters) - 1
	for i := range end {
		if !goesOn(s.letters[:i+1]) {
			return i
		}
	}
	if !grammar.MatchString(s.letters[:end]) {
		return end
	}
	return end + 1
}

// see asks for a token, up to which all must be right.
func (s *slow) see(i int) int {
	if i >= s.stop {
		s.giveUp(api.ErrSyntax, s.stop)
	}
	return i
}

func (s *slow) giveUp(code api.Errno, at int) {
	panic(api.Fault{Code: code, At: s.l[at].At})
}

func (s *slow) refuseIf(is bool, code api.Errno, at int) {
	if is {
		s.giveUp(code, at)
	}
}

// statement reads one, and answers the place of its last token.
func (s *slow) statement(i int) int {
	switch kind := s.letters[i]; kind {
	case 'i':
		return s.see(i + 2)
	case 'q', 'c':
		return s.registers(i, kind)
	case 'g':
		return s.gateOf(i)
	case 'f':
		s.refuseIf(s.owner[s.l[s.see(i+2)].Text] != 'c', api.ErrUnknown, i+2)
		name := s.l[i+2].Text
		s.refuseIf(s.l[s.see(i+4)].Int >= s.size[name], api.ErrRange, i+4)
		s.refuseIf(s.l[s.see(i+7)].Int > 1, api.ErrRange, i+7)
		return s.call(s.see(i+9), s.from[name]+s.l[i+4].Int, s.l[i+7].Int)
	case 'm':
		return s.measurement(i)
	case 'r':
		l, _, end := s.args(i+1, 'q')
		s.grow(i, slices.Collect(func(yield func(api.Op) bool) {
			for _, q := range l[0] {
				yield(reset(q))
			}
		}))
		return s.see(end)
	case 'b':
		l, _, end := s.args(i+1, 'q')
		all := slices.Concat(l...)
		s.refuseIf(hasTwice(all), api.ErrCall, i)
		s.grow(i, []api.Op{barrier(all...)})
		return end
	}
	return s.call(i, -1, 0)
}

func (s *slow) registers(i int, kind byte) int {
	name := s.l[s.see(i+1)].Text
	s.refuseIf(s.owner[name] != 0, api.ErrTwice, i+1)
	n := s.l[s.see(i+3)].Int
	s.refuseIf(n == 0 || s.sum[kind]+n > 64, api.ErrRange, i+3)
	s.owner[name], s.size[name], s.from[name] = kind, n, s.sum[kind]
	s.sum[kind] += n
	return s.see(i + 5)
}

// grow adds operations to the circuit.
func (s *slow) grow(first int, ops []api.Op) {
	s.refuseIf(len(s.circuit.Ops)+len(ops) > 4096, api.ErrMany, first)
	s.circuit.Ops = append(s.circuit.Ops, ops...)
}

// args reads args: the elements of each, whether it is a whole register, and the place behind the last.
func (s *slow) args(i int, kind byte) (l [][]int, whole []bool, end int) {
	for {
		name := s.l[s.see(i)].Text
		s.refuseIf(s.owner[name] != kind, api.ErrUnknown, i)
		var elements []int
		for k := range s.size[name] {
			elements = append(elements, s.from[name]+k)
		}
		all := s.letters[s.see(i+1)] != '['
		i++
		if !all {
			k := s.l[s.see(i+1)].Int
			s.refuseIf(k >= s.size[name], api.ErrRange, i+1)
			elements = elements[k : k+1]
			i = s.see(i+2) + 1
		}
		l, whole = append(l, elements), append(whole, all)
		if s.letters[s.see(i)] != ',' {
			return l, whole, i
		}
		i++
	}
}

func (s *slow) measurement(i int) int {
	from, a, next := s.args(i+1, 'q')
	to, b, end := s.args(next+1, 'c')
	s.refuseIf(a[0] != b[0] || len(from[0]) != len(to[0]), api.ErrCall, i)
	var ops []api.Op
	for k, q := range from[0] {
		ops = append(ops, measure(q, to[0][k]))
	}
	s.grow(i, ops)
	return end
}

func (s *slow) call(i, bit, value int) int {
	name := s.l[i].Text
	s.refuseIf(s.owner[name] != 'g', api.ErrUnknown, i)
	l, whole, end := s.args(i+1, 'q')
	s.refuseIf(len(l) != s.size[name], api.ErrCall, i)
	calls := 1
	for k := range l {
		if whole[k] {
			calls = len(l[k])
		}
	}
	var ops []api.Op
	for c := range calls {
		var qubits []int
		for k := range l {
			s.refuseIf(whole[k] && len(l[k]) != calls, api.ErrCall, i)
			qubits = append(qubits, l[k][c%len(l[k])])
		}
		s.refuseIf(hasTwice(qubits), api.ErrCall, i)
		for _, op := range onto(s.bodies[name], qubits) {
			if op.Kind == api.OpGate {
				op = when(bit, value, op)
			}
			ops = append(ops, op)
		}
	}
	s.grow(i, ops)
	return end
}

// gateOf reads a define, whose body it writes out.
func (s *slow) gateOf(i int) int {
	name := s.l[s.see(i+1)].Text
	s.refuseIf(s.owner[name] != 0, api.ErrTwice, i+1)
	var names []string
	for i += 2; ; i += 2 {
		s.refuseIf(slices.Contains(names, s.l[s.see(i)].Text), api.ErrTwice, i)
		names = append(names, s.l[i].Text)
		if s.letters[s.see(i+1)] == '{' {
			break
		}
	}
	var body []api.Op
	for i += 2; s.letters[s.see(i)] != '}'; i++ {
		first, callee := i, s.l[i].Text
		s.refuseIf(callee != "barrier" && s.owner[callee] != 'g', api.ErrUnknown, i)
		var given []int
		for s.letters[i] != ';' {
			given = append(given, slices.Index(names, s.l[s.see(i+1)].Text))
			s.refuseIf(slices.Contains(given, -1), api.ErrUnknown, i+1)
			i = s.see(i + 2)
		}
		lines := s.bodies[callee]
		if callee == "barrier" {
			lines = []api.Op{barrier()}
			for k := range given {
				lines[0].Qubits = append(lines[0].Qubits, k)
			}
		}
		s.refuseIf(hasTwice(given) || callee != "barrier" && len(given) != s.size[callee], api.ErrCall, first)
		body = append(body, onto(lines, given)...)
		s.refuseIf(len(body) > 4096, api.ErrMany, first)
	}
	s.owner[name], s.size[name], s.bodies[name] = 'g', len(names), body
	return i
}

// onto puts operations on others in the place of their qubits.
func onto(ops []api.Op, qubits []int) []api.Op {
	l := deep(api.Circuit{Ops: ops}).Ops
	for _, op := range l {
		for k, q := range op.Qubits {
			op.Qubits[k] = qubits[q]
		}
	}
	return l
}

func hasTwice(l []int) bool {
	for i, x := range l {
		if slices.Contains(l[:i], x) {
			return true
		}
	}
	return false
}
