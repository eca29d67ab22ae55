package token

import (
	"strconv"
	"strings"

	"phasor/api"
)

// marks: none of them begins another, so that the first that fits is the longest.
var marks = [...]string{";", ",", "(", ")", "[", "]", "{", "}", "->", "=="}

// cut answers the token that a text begins with, and how many bytes it has.
func cut(s string) (api.Token, int, api.Errno) {
	switch {
	case s == "":
		return api.Token{Kind: api.TokenEnd}, 0, api.OK
	case beginsWord(s[0]):
		return name(s)
	case isDigit(s[0]):
		return number(s)
	case s[0] == '"':
		return quoted(s)
	}
	return mark(s)
}

// name cuts a name.
func name(s string) (api.Token, int, api.Errno) {
	n := span(s, inWord)
	if n > api.MaxName {
		return api.Token{}, 0, api.ErrWord
	}
	return api.Token{Kind: api.TokenName, Text: s[:n]}, n, api.OK
}

// number cuts a number, with or without a point.
func number(s string) (api.Token, int, api.Errno) {
	whole := span(s, isDigit)
	n := whole + fraction(s[whole:])
	if whole > 1 && s[0] == '0' || span(s[n:], beginsWord) > 0 {
		return api.Token{}, 0, api.ErrNumber
	}
	if n > whole {
		return api.Token{Kind: api.TokenReal, Text: s[:n]}, n, api.OK
	}
	v, err := strconv.Atoi(s[:n])
	if err != nil || v > api.MaxNumber {
		return api.Token{}, 0, api.ErrNumber
	}
	return api.Token{Kind: api.TokenInt, Int: v}, n, api.OK
}

// fraction is how many bytes of a point and digits a text begins with; a point without a digit is none.
func fraction(s string) int {
	if !strings.HasPrefix(s, ".") {
		return 0
	}
	digits := span(s[1:], isDigit)
	if digits == 0 {
		return 0
	}
	return 1 + digits
}

// quoted cuts a quoted text, which ends in its line.
func quoted(s string) (api.Token, int, api.Errno) {
	text := s[1 : 1+span(s[1:], inQuotes)]
	n := len(text) + 2
	if len(s) < n || s[n-1] != '"' {
		return api.Token{}, 0, api.ErrQuote
	}
	return api.Token{Kind: api.TokenText, Text: text}, n, api.OK
}

// mark cuts a mark.
func mark(s string) (api.Token, int, api.Errno) {
	for _, m := range marks {
		if strings.HasPrefix(s, m) {
			return api.Token{Kind: api.TokenMark, Text: m}, len(m), api.OK
		}
	}
	return api.Token{}, 0, api.ErrToken
}

// span is how many bytes for which something holds a text begins with.
func span(s string, holds func(byte) bool) int {
	for i := range len(s) {
		if !holds(s[i]) {
			return i
		}
	}
	return len(s)
}

func isDigit(b byte) bool { return '0' <= b && b <= '9' }

func beginsWord(b byte) bool { return 'a' <= b && b <= 'z' || 'A' <= b && b <= 'Z' || b == '_' }

func inWord(b byte) bool { return beginsWord(b) || isDigit(b) }

func inLine(b byte) bool { return b != '\n' }

func inQuotes(b byte) bool { return b != '"' && b != '\n' }
