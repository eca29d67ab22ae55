package token_test

import (
	"math/rand"
	"strings"
	"testing"

	"phasor/api"
	"phasor/token"
)

// Tokens in short, without their spots.

func name(s string) api.Token { return api.Token{Kind: api.TokenName, Text: s} }

func number(n int) api.Token { return api.Token{Kind: api.TokenInt, Int: n} }

func real(s string) api.Token { return api.Token{Kind: api.TokenReal, Text: s} }

func quoted(s string) api.Token { return api.Token{Kind: api.TokenText, Text: s} }

func mark(s string) api.Token { return api.Token{Kind: api.TokenMark, Text: s} }

// allMarks are the chapter's.
func allMarks() []string { return strings.Fields("; , ( ) [ ] { } -> ==") }

// plain takes the spots away.
func plain(l []api.Token) []api.Token {
	out := make([]api.Token, len(l))
	for i, t := range l {
		out[i] = t
		out[i].At = api.Spot{}
	}
	return out
}

// wantTokens holds the tokens of a text, but for their spots and the end behind them, against those that are wanted.
func wantTokens(t *testing.T, s string, want ...api.Token) {
	t.Helper()
	l, f := token.Scan(s)
	if f != (api.Fault{}) {
		t.Errorf("%.80q: %+v", s, f)
		return
	}
	got := plain(l)
	want = append(append([]api.Token{}, want...), api.Token{})
	if len(got) != len(want) {
		t.Errorf("%.80q: %d tokens, not %d: %.300v", s, len(got), len(want), got)
		return
	}
	for i := range got {
		if got[i] != want[i] {
			t.Errorf("%.80q: token %d: %+v, not %+v", s, i, got[i], want[i])
		}
	}
}

// wantFault holds the fault of a text against one at a byte, and asks for no tokens beside it.
func wantFault(t *testing.T, s string, code api.Errno, off int) {
	t.Helper()
	l, f := token.Scan(s)
	if want := (api.Fault{Code: code, At: spot(s, off)}); f != want || len(l) != 0 {
		t.Errorf("%.80q: %+v, not %+v; %d tokens", s, f, want, len(l))
	}
}

// pieces are of texts that are near to tokens.
func pieces() []string {
	return append(allMarks(), "a", "Z", "_", "q0", "cx", "0", "1", "9", "00", "10", "1000000000", "0.5", ".", "-", ">", "=", "/", "//", "\"", "\"\"", "\"x y\"",
		" ", "\t", "\r", "\n", "// é\n", "\x00", "\xff", "\xc3", "\x80", "é", "€", "\xe2\x82", "\U0001f600", "\\", "+", ":", "'", "#",
		strings.Repeat("a", 31), strings.Repeat("9", 9))
}

// someText puts pieces together.
func someText(chance *rand.Rand) string {
	l := pieces()
	var b strings.Builder
	for range chance.Intn(12) {
		b.WriteString(l[chance.Intn(len(l))])
	}
	return b.String()
}

// someToken is one that Scan can give, but the end.
func someToken(chance *rand.Rand) api.Token {
	l := []api.Token{
		name("q"), name("_"), name("Ab_9"), name(strings.Repeat("z", 32)),
		number(0), number(7), number(chance.Intn(1000)), number(1000000000), number(chance.Intn(1000000001)),
		real("0.0"), real("2.0"), real("10.007"), real("99999999999999999999.5"),
		quoted(""), quoted("a b"), quoted("//"), quoted("é\xff\\\r;"), quoted("'"),
	}
	for _, m := range allMarks() {
		l = append(l, mark(m))
	}
	return l[chance.Intn(len(l))]
}
