package token_test

import (
	"testing"

	"phasor/api"
	"phasor/token"
)

// The chapter's examples, as they stand there.

func TestExampleOne(t *testing.T) {
	wantTokens(t, "cx q[0], q[1]; // x", name("cx"), name("q"), mark("["), number(0), mark("]"), mark(","), name("q"), mark("["), number(1), mark("]"), mark(";"))
	wantTokens(t, "OPENQASM 2.0;", name("OPENQASM"), real("2.0"), mark(";"))
}

func TestExampleTwo(t *testing.T) {
	for _, s := range []string{"007", "1a", "1000000001", "1.5x", "00.5"} {
		wantFault(t, s, api.ErrNumber, 0)
	}
	for _, s := range []string{"-", "=", ".5", "é"} {
		wantFault(t, s, api.ErrToken, 0)
	}
	wantFault(t, `"a`, api.ErrQuote, 0)
	wantFault(t, "1.", api.ErrToken, 1)
}

func TestExampleThree(t *testing.T) {
	if s, e := token.Write(api.Token{Kind: api.TokenInt, Int: -1}); s != "" || e != api.ErrArg {
		t.Errorf("%q %d", s, e)
	}
	if !token.Name("q_1") {
		t.Error("q_1 is none")
	}
	for _, s := range []string{"", "1q", "q "} {
		if token.Name(s) {
			t.Errorf("%q is one", s)
		}
	}
}
