package token

import (
	"strconv"
	"strings"

	"phasor/api"
)

// Name tells whether a text is a name, and nothing besides.
func Name(s string) bool {
	return whole(s, api.Token{Kind: api.TokenName, Text: s})
}

// Write writes a token. What it writes is cut again: so just those that can come of a text are taken.
func Write(t api.Token) (string, api.Errno) {
	s := draft(t)
	if !whole(s, t) {
		return "", api.ErrArg
	}
	return s, api.OK
}

// whole tells whether a text, from its first byte to its last, is a token, wherever that stands.
func whole(s string, t api.Token) bool {
	t.At = api.Spot{}
	got, n, e := cut(s)
	return e == api.OK && n == len(s) && got == t
}

// draft is what a token would be written as, if it can be one.
func draft(t api.Token) string {
	switch t.Kind {
	case api.TokenInt:
		return strconv.Itoa(t.Int)
	case api.TokenText:
		return `"` + t.Text + `"`
	}
	return t.Text
}

// Join writes tokens, a blank between each two.
func Join(l []api.Token) (string, api.Errno) {
	texts := make([]string, len(l))
	for i, t := range l {
		s, e := Write(t)
		if e != api.OK || t.Kind == api.TokenEnd && i < len(l)-1 {
			return "", api.ErrArg
		}
		texts[i] = s
	}
	return strings.Join(texts, " "), api.OK
}
