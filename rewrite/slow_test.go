package rewrite_test

import (
	"slices"
	"strings"
	"testing"

	"phasor/api"
	"phasor/apply"
	"phasor/gate"
)

// The chapter written a second time, as it says it: by names, each step anew from the beginning.

func name(op api.Op) string {
	if op.Kind != api.OpGate {
		return ""
	}
	return gate.Name(op.Gate)
}

// slowTouch is P18.1.
func slowTouch(a, b api.Op) bool {
	for _, p := range a.Qubits {
		for _, q := range b.Qubits {
			if p == q {
				return true
			}
		}
	}
	takes := func(op api.Op) bool { return op.Kind == 2 || op.Kind == 3 }
	if takes(a) && takes(b) {
		return true
	}
	if a.Kind == 2 && b.If != -1 && a.Bit == b.If {
		return true
	}
	return b.Kind == 2 && a.If != -1 && b.Bit == a.If
}

// slowPartner is the place of the last operation ahead that touches, or -1.
func slowPartner(l []api.Op, j int) int {
	for i := j - 1; i >= 0; i-- {
		if slowTouch(l[i], l[j]) {
			return i
		}
	}
	return -1
}

func gateAlone(op api.Op) bool { return op.Kind == 1 && op.If == -1 }

// undoes tells whether two gates are of inverse kinds on the same qubits, as rule 2 says it.
func undoes(a, b api.Op) bool {
	if !gateAlone(a) || !gateAlone(b) || name(a) != turnedName(name(b)) {
		return false
	}
	p, q := a.Qubits, b.Qubits
	switch name(a) {
	case "cz", "swap", "iswap", "iswapdg", "hh", "ccz":
		for _, x := range p {
			if !slices.Contains(q, x) {
				return false
			}
		}
		return true
	case "ccx":
		return p[2] == q[2] && (p[0] == q[0] && p[1] == q[1] || p[0] == q[1] && p[1] == q[0])
	case "cswap":
		return p[0] == q[0] && (p[1] == q[1] && p[2] == q[2] || p[1] == q[2] && p[2] == q[1])
	}
	return slices.Equal(p, q)
}

// turnedName has dg behind a name of those that have an inverse of another kind, or has it no more.
func turnedName(s string) string {
	root, is := strings.CutSuffix(s, "dg")
	switch {
	case is:
		return root
	case strings.Contains(" s sx sy iswap ", " "+s+" "):
		return s + "dg"
	}
	return s
}

// slowUse uses one rule, at the least place, and tells whether it did.
func slowUse(l []api.Op, rules string, partner func([]api.Op, int) int) ([]api.Op, bool) {
	for j, op := range l {
		if !gateAlone(op) {
			continue
		}
		for _, r := range rules {
			i := partner(l, j)
			switch {
			case r == '1' && name(op) == "id":
				return slices.Delete(slices.Clone(l), j, j+1), true
			case r == '2' && i >= 0 && undoes(l[i], op):
				return slices.Delete(slices.Delete(slices.Clone(l), j, j+1), i, i+1), true
			case r == '3' && i >= 0 && gateAlone(l[i]) && slices.Equal(l[i].Qubits, op.Qubits):
				if k, is := gate.Compose(l[i].Gate, op.Gate); is {
					l = slices.Delete(slices.Clone(l), j, j+1)
					l[i].Gate = k
					return l, true
				}
			}
		}
	}
	return l, false
}

// slowRules is P18.2 with some of the rules.
func slowRules(c api.Circuit, rules string, partner func([]api.Op, int) int) api.Circuit {
	d := deep(c)
	for used := true; used; {
		d.Ops, used = slowUse(d.Ops, rules, partner)
	}
	return d
}

func slowCancel(c api.Circuit) api.Circuit   { return slowRules(c, "12", slowPartner) }
func slowMerge(c api.Circuit) api.Circuit    { return slowRules(c, "3", slowPartner) }
func slowSimplify(c api.Circuit) api.Circuit { return slowRules(c, "123", slowPartner) }

// slowSlide is P18.7.
func slowSlide(c api.Circuit) api.Circuit {
	return slowRules(c, "12", func(l []api.Op, j int) int {
		for i := j - 1; i >= 0; i-- {
			if !slowTouch(l[i], l[j]) {
				continue
			}
			if gateAlone(l[i]) && !undoes(l[i], l[j]) {
				if is, e := gate.Commute(l[i].Gate, l[i].Qubits, l[j].Gate, l[j].Qubits); is && e == api.OK {
					continue
				}
			}
			return i
		}
		return -1
	})
}

// slowOrder is P18.3.
func slowOrder(c api.Circuit) api.Circuit {
	left, d := deep(c).Ops, of(c.Qubits, c.Bits)
	for len(left) > 0 {
		next := -1
		for i := range left {
			if slowPartner(left, i) < 0 && (next < 0 || comesFirst(left[i], left[next])) {
				next = i
			}
		}
		d.Ops = append(d.Ops, left[next])
		left = slices.Delete(left, next, next+1)
	}
	return d
}

// comesFirst tells whether an operation is less than another, number by number.
func comesFirst(a, b api.Op) bool {
	row := func(op api.Op) []int {
		l := []int{int(op.Kind), int(op.Gate)}
		l = append(l, op.Qubits...)
		return append(l, -1, op.Bit, op.If, op.When) // -1: a beginning comes first
	}
	return slices.Compare(row(a), row(b)) < 0
}

// slowExpand is P18.4, however long it comes.
func slowExpand(t *testing.T, c api.Circuit) api.Circuit {
	t.Helper()
	d := of(c.Qubits, c.Bits)
	for _, op := range c.Ops {
		d.Ops = append(d.Ops, slowWritten(t, op)...)
	}
	return d
}

func slowWritten(t *testing.T, op api.Op) []api.Op {
	t.Helper()
	row := slowRow(name(op))
	if row == "" {
		return deep(of(0, 0, op)).Ops
	}
	var l []api.Op
	for part := range strings.SplitSeq(row, ", ") {
		words := strings.Fields(part)
		one := op
		one.Gate, one.Qubits = kind(t, words[0]), nil
		for _, w := range words[1:] {
			one.Qubits = append(one.Qubits, op.Qubits[strings.Index("tuv", w)])
		}
		l = append(l, slowWritten(t, one)...)
	}
	return l
}

// slowRow is the chapter's table.
func slowRow(s string) string {
	switch s {
	case "swap":
		return "cx t u, cx u t, cx t u"
	case "iswap":
		return "s t, s u, cz t u, swap t u"
	case "iswapdg":
		return "swap t u, cz t u, sdg t, sdg u"
	case "cy":
		return "sdg u, cx t u, s u"
	case "cz":
		return "sy u, cx t u, sydg u"
	case "hh":
		return "s t, sx t, s t, sdg u, sxdg u, sdg u"
	case "ccz":
		return "sy v, ccx t u v, sydg v"
	case "cswap":
		return "cx v u, ccx t u v, cx v u"
	}
	return ""
}

// slowPack is P18.8: rows by partners, products by layer 10.
func slowPack(t *testing.T, c api.Circuit) api.Circuit {
	t.Helper()
	short := func(op api.Op) bool { return gateAlone(op) && len(op.Qubits) == 1 }
	d, done := of(c.Qubits, c.Bits), make([]bool, len(c.Ops))
	for i, op := range c.Ops {
		if done[i] {
			continue
		}
		if !short(op) {
			d.Ops = append(d.Ops, deep(of(0, 0, op)).Ops...)
			continue
		}
		row, last := []api.Op{do(op.Gate, 0)}, i
		for j := i + 1; j < len(c.Ops); j++ {
			if short(c.Ops[j]) && slowPartner(c.Ops, j) == last {
				row, last, done[j] = append(row, do(c.Ops[j].Gate, 0)), j, true
			}
		}
		m, e := apply.Unitary(of(1, 0, row...))
		word, f := gate.Word(m)
		if e != api.OK || f != api.OK {
			t.Fatal("no word:", e, f, row)
		}
		for _, k := range word {
			d.Ops = append(d.Ops, do(k, op.Qubits[0]))
		}
	}
	return d
}

// slowLinear is P18.9: bit k of number q is what qubit q comes to, if qubit k alone begins with 1.
func slowLinear(t *testing.T, c api.Circuit) []uint64 {
	t.Helper()
	l := make([]uint64, c.Qubits)
	for k := range c.Qubits {
		one := make([]bool, c.Qubits)
		one[k] = true
		for _, op := range c.Ops {
			switch q := op.Qubits; name(op) {
			case "cx":
				one[q[1]] = one[q[1]] != one[q[0]]
			case "swap":
				one[q[0]], one[q[1]] = one[q[1]], one[q[0]]
			}
		}
		for q, is := range one {
			if is {
				l[q] |= 1 << k
			}
		}
	}
	return l
}

// slowSynth is P18.9, with rows of bools; false, if it does not come through.
func slowSynth(rows []uint64) (api.Circuit, bool) {
	n := len(rows)
	table := make([][]bool, n)
	for r := range table {
		for c := range n {
			table[r] = append(table[r], rows[r]>>c%2 == 1)
		}
	}
	d := of(n, 0)
	add := func(from, to int) {
		for c := range n {
			table[to][c] = table[to][c] != table[from][c]
		}
		d.Ops = append(d.Ops, do(api.GateCX, from, to))
	}
	for c := range n {
		for r := c + 1; r < n && !table[c][c]; r++ {
			if table[r][c] {
				add(r, c)
			}
		}
		if !table[c][c] {
			return api.Circuit{}, false
		}
		for r := range n {
			if r != c && table[r][c] {
				add(c, r)
			}
		}
	}
	slices.Reverse(d.Ops)
	return d, true
}
