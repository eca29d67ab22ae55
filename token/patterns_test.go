package token_test

import (
	"regexp"
	"slices"
	"strconv"
	"testing"

	"phasor/api"
	"phasor/token"
)

// The chapter's words as patterns of the library.
var (
	between   = regexp.MustCompile(`^(?:[ \t\n\r]|//[^\n]*)*`)
	aName     = regexp.MustCompile(`^[a-zA-Z_][a-zA-Z0-9_]*`)
	aReal     = regexp.MustCompile(`^[0-9]+\.[0-9]+`)
	aNumber   = regexp.MustCompile(`^[0-9]+`)
	noughts   = regexp.MustCompile(`^0[0-9]`)
	aLetter   = regexp.MustCompile(`^[a-zA-Z_]`)
	aQuoted   = regexp.MustCompile(`^"[^"\n]*"`)
	aMark     = regexp.MustCompile(`^(?:[;,()\[\]{}]|->|==)`)
	wholeName = regexp.MustCompile(`^[a-zA-Z_][a-zA-Z0-9_]{0,31}$`)
	wholeReal = regexp.MustCompile(`^(?:0|[1-9][0-9]*)\.[0-9]+$`)
)

// cut takes the first token off a text that begins with none of what stands between tokens.
func cut(s string) (api.Token, int, api.Errno) {
	if s == "" {
		return api.Token{}, 0, api.OK
	}
	if m := aName.FindString(s); m != "" {
		if len(m) > 32 {
			return api.Token{}, 0, api.ErrWord
		}
		return name(m), len(m), api.OK
	}
	if m := aNumber.FindString(s); m != "" {
		return cutNumber(s, m)
	}
	if s[0] == '"' {
		m := aQuoted.FindString(s)
		if m == "" {
			return api.Token{}, 0, api.ErrQuote
		}
		return quoted(m[1 : len(m)-1]), len(m), api.OK
	}
	if m := aMark.FindString(s); m != "" {
		return mark(m), len(m), api.OK
	}
	return api.Token{}, 0, api.ErrToken
}

func cutNumber(s, digits string) (api.Token, int, api.Errno) {
	t, n := api.Token{}, len(digits)
	v, err := strconv.ParseUint(digits, 10, 64)
	bad := err != nil || v > 1000000000
	if m := aReal.FindString(s); m != "" {
		t, n, bad = real(m), len(m), false
	} else {
		t = number(int(v))
	}
	if bad || noughts.MatchString(s) || aLetter.MatchString(s[n:]) {
		return api.Token{}, 0, api.ErrNumber
	}
	return t, n, api.OK
}

// byPatterns is Scan, slowly.
func byPatterns(s string) ([]api.Token, api.Fault) {
	var l []api.Token
	for off := 0; ; {
		off += len(between.FindString(s[off:]))
		t, n, e := cut(s[off:])
		if e != api.OK {
			return nil, api.Fault{Code: e, At: spot(s, off)}
		}
		t.At = spot(s, off)
		l = append(l, t)
		if t.Kind == api.TokenEnd {
			return l, api.Fault{}
		}
		off += n
	}
}

// scanAgainst holds Scan, and Name, against the patterns.
func scanAgainst(t *testing.T, s string) {
	t.Helper()
	l, f := token.Scan(s)
	want, fault := byPatterns(s)
	if f != fault || !slices.Equal(l, want) {
		t.Fatalf("%q: %+v %+v, not %+v %+v", s, l, f, want, fault)
	}
	if got := token.Name(s); got != wholeName.MatchString(s) {
		t.Fatalf("%q: Name %v", s, got)
	}
}
