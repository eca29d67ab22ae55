package code

import (
	"strings"

	"phasor/api"
	"phasor/pauli"
)

// row is a code as the chapter's table writes it: strings without their sign, stabilizers with blanks between.
type row struct {
	name        string
	stabilizers string
	x, z        string
	corrects    string
}

// rows are the codes, in their order.
var rows = [...]row{
	{"bit", "ZZI IZZ", "XXX", "ZII", "X"},
	{"sign", "XXI IXX", "ZZZ", "XII", "Z"},
	{"five", "XZZXI IXZZX XIXZZ ZXIXZ", "XXXXX", "ZZZZZ", "XYZ"},
	{"steane", "IIIXXXX IXXIIXX XIXIXIX IIIZZZZ IZZIIZZ ZIZIZIZ", "XXXXXXX", "ZZZZZZZ", "XYZ"},
	{"surface", "IXXIXXIII IIIXXIXXI XXIIIIIII IIIIIIIXX ZZIZZIIII IIIIZZIZZ IIIZIIZII IIZIIZIII", "XIIXIIXII", "ZZZIIIIII", "XYZ"},
	{"shor", "ZZIIIIIII IZZIIIIII IIIZZIIII IIIIZZIII IIIIIIZZI IIIIIIIZZ XXXXXXIII IIIXXXXXX", "ZZZZZZZZZ", "XXXXXXXXX", "XYZ"},
}

// code is a code with its strings read.
type code struct {
	n           int
	stabilizers []api.Pauli
	x, z        api.Pauli
	corrects    string
}

// find reads the code of a name.
func find(name string) (code, api.Errno) {
	for _, r := range rows {
		if r.name == name {
			return r.read(), api.OK
		}
	}
	return code{}, api.ErrCode
}

func (r row) read() code {
	c := code{n: len(r.x), x: plain(r.x), z: plain(r.z), corrects: r.corrects}
	for _, letters := range strings.Fields(r.stabilizers) {
		c.stabilizers = append(c.stabilizers, plain(letters))
	}
	return c
}

// plain is the string of letters with the sign +.
func plain(letters string) api.Pauli {
	p, _ := pauli.Parse("+" + letters)
	return p
}

// times is the product of two strings that are known to be right.
func times(a, b api.Pauli) api.Pauli {
	p, _ := pauli.Mul(a, b)
	return p
}

// apart is 0 of two strings that commute, 1 of others.
func apart(a, b api.Pauli) int {
	if commute, _ := pauli.Commute(a, b); commute {
		return 0
	}
	return 1
}
