package token_test

import (
	"math/rand"
	"slices"
	"strings"
	"testing"

	"phasor/api"
	"phasor/token"
)

// P4.5: Scan of what Join writes are the tokens, the end behind them.
func TestJoinAndScan(t *testing.T) {
	chance := rand.New(rand.NewSource(45))
	for range 5000 {
		var l []api.Token
		for range chance.Intn(20) {
			l = append(l, someToken(chance))
		}
		backAgain(t, l)
		backAgain(t, append(l, api.Token{}))
	}
}

func backAgain(t *testing.T, l []api.Token) {
	t.Helper()
	s, e := token.Join(l)
	got, f := token.Scan(s)
	if e != api.OK || f != (api.Fault{}) {
		t.Fatalf("%+v: %q %d %+v", l, s, e, f)
	}
	want := plain(l)
	if len(want) == 0 || want[len(want)-1].Kind != api.TokenEnd {
		want = append(want, api.Token{})
	}
	if !slices.Equal(plain(got), want) {
		t.Fatalf("%+v: %q: %+v", l, s, got)
	}
}

// P4.5: blanks and comments between two tokens turn nothing but spots.
func TestBlanksBetween(t *testing.T) {
	chance := rand.New(rand.NewSource(46))
	gaps := []string{" ", "\t", "\n", "\r", "//\n", "// \"é\xff;\n", "///\n"}
	for range 5000 {
		var l []api.Token
		var b strings.Builder
		for range chance.Intn(12) {
			l = append(l, someToken(chance))
			s, _ := token.Write(l[len(l)-1])
			b.WriteString(s)
			for range 1 + chance.Intn(4) {
				b.WriteString(gaps[chance.Intn(len(gaps))])
			}
		}
		wantTokens(t, b.String(), l...)
	}
}

// P4.5: so do they between tokens that stand side by side in a text.
func TestBlanksPutIn(t *testing.T) {
	const s = "OPENQASM 2.0;include\"qelib1.inc\";qreg q[2];creg c[2];if(c[0]==1)cx q[0],q[1];measure q->c;gate a b{x b;}"
	l, f := token.Scan(s)
	if f != (api.Fault{}) {
		t.Fatal(f)
	}
	for _, between := range []string{" ", "\n", "\t\r", "//\n", " // x\n\n"} {
		for i := range l {
			off := l[i].At.Off
			wantTokens(t, s[:off]+between+s[off:], plain(l[:len(l)-1])...)
		}
	}
}

// FuzzScan holds Scan against the patterns, and goes there and back, of any text.
func FuzzScan(f *testing.F) {
	chance := rand.New(rand.NewSource(47))
	for range 200 {
		f.Add(someText(chance))
	}
	for _, p := range pieces() {
		f.Add(p)
	}
	f.Fuzz(func(t *testing.T, s string) {
		scanAgainst(t, s)
		for off := range len(s) + 1 {
			if off < 200 && token.At(s, off) != spot(s, off) {
				t.Fatalf("%q, %d: %+v", s, off, token.At(s, off))
			}
		}
		if l, f := token.Scan(s); f == (api.Fault{}) {
			backAgain(t, l)
			backAgain(t, l[:len(l)-1])
		}
		if e := writes(name(s)); e != token.Name(s) {
			t.Fatalf("%q: %v", s, e)
		}
	})
}

func writes(t api.Token) bool {
	_, e := token.Write(t)
	return e == api.OK
}
