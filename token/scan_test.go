package token_test

import (
	"math/rand"
	"slices"
	"strings"
	"testing"

	"phasor/api"
	"phasor/token"
)

// P4.2: blanks and comments, of which there are no tokens.
func TestScanBlanks(t *testing.T) {
	for _, s := range []string{
		"", " ", "\t", "\n", "\r", " \t\r\n \n\n", "//", "// ", "//\n", "// a ; \" \xff\x00é\n", "//a//b", "//a\n//b\n", " //\n\t//\n", "///", "////\n/////", "//\r\n", "//\"",
	} {
		wantTokens(t, s)
		for _, behind := range []string{"", " ", "\n", "//", "\n//\n\t"} {
			wantTokens(t, s+"\nq"+behind, name("q"))
		}
	}
	wantTokens(t, "// q\rr\nx", name("x"))
	wantTokens(t, "q//r", name("q"))
	wantTokens(t, "a//\nb// c\n", name("a"), name("b"))
	wantTokens(t, "1//\n2", number(1), number(2))
}

// P4.2: any byte is a blank, or begins a token, or none.
func TestScanBytes(t *testing.T) {
	for c := range 256 {
		s := string([]byte{byte(c)})
		switch {
		case strings.Contains(" \t\n\r", s):
			wantTokens(t, s)
		case 'a' <= c && c <= 'z' || 'A' <= c && c <= 'Z' || c == '_':
			wantTokens(t, s, name(s))
		case '0' <= c && c <= '9':
			wantTokens(t, s, number(c-'0'))
		case strings.Contains(";,()[]{}", s):
			wantTokens(t, s, mark(s))
		case c == '"':
			wantFault(t, s, api.ErrQuote, 0)
		default:
			wantFault(t, s, api.ErrToken, 0)
			wantFault(t, "q\n "+s+"q", api.ErrToken, 3)
		}
	}
}

// P4.2: which bytes go on with a name, and which with a number; all others end it.
func TestScanBytesBehind(t *testing.T) {
	for c := range 256 {
		s := string([]byte{byte(c)})
		switch {
		case 'a' <= c && c <= 'z' || 'A' <= c && c <= 'Z' || c == '_':
			wantTokens(t, "q"+s, name("q"+s))
			wantFault(t, "5"+s, api.ErrNumber, 0)
			wantFault(t, "5.0"+s, api.ErrNumber, 0)
		case '0' <= c && c <= '9':
			wantTokens(t, "q"+s, name("q"+s))
			wantTokens(t, "5"+s, number(50+c-'0'))
			wantTokens(t, "5."+s+"1", real("5."+s+"1"))
		case strings.Contains(" \t\n\r", s):
			wantTokens(t, "q"+s+"5"+s+"5.0"+s, name("q"), number(5), real("5.0"))
		case strings.Contains(";,()[]{}", s):
			wantTokens(t, "q"+s+"5"+s+"5.0"+s, name("q"), mark(s), number(5), mark(s), real("5.0"), mark(s))
		case c == '"':
			wantTokens(t, `q""5""5.0""`, name("q"), quoted(""), number(5), quoted(""), real("5.0"), quoted(""))
		default:
			wantFault(t, "q"+s, api.ErrToken, 1)
			wantFault(t, "5"+s, api.ErrToken, 1)
			wantFault(t, "5.0"+s, api.ErrToken, 3)
		}
	}
}

// P4.2: names, and how long they may be.
func TestScanNames(t *testing.T) {
	if api.MaxName != 32 {
		t.Fatal(api.MaxName)
	}
	for _, s := range []string{"a", "z", "A", "Z", "_", "__", "_0", "q_1", "OPENQASM", "a0b1C2_", "if", "barrier", strings.Repeat("q", 31), strings.Repeat("_", 32), "a" + strings.Repeat("9", 31)} {
		wantTokens(t, s, name(s))
		wantTokens(t, s+";"+s+"\""+s+"\"", name(s), mark(";"), name(s), quoted(s))
	}
	for _, n := range []int{33, 34, 64, 100000} {
		for _, c := range []string{"a", "Z", "_"} {
			wantFault(t, strings.Repeat(c, n), api.ErrWord, 0)
			wantFault(t, "x; "+c+strings.Repeat("9", n-1)+" é", api.ErrWord, 3)
		}
	}
	wantFault(t, "aé", api.ErrToken, 1)
	wantFault(t, "a.b", api.ErrToken, 1)
	wantFault(t, "a-b", api.ErrToken, 1)
	wantFault(t, "ｑ", api.ErrToken, 0)
}

// P4.2: numbers without a point.
func TestScanNumbers(t *testing.T) {
	if api.MaxNumber != 1000000000 {
		t.Fatal(api.MaxNumber)
	}
	wantTokens(t, "0", number(0))
	wantTokens(t, "9", number(9))
	wantTokens(t, "10", number(10))
	wantTokens(t, "4096", number(4096))
	wantTokens(t, "999999999", number(999999999))
	wantTokens(t, "1000000000", number(1000000000))
	wantTokens(t, "0 0", number(0), number(0))
	wantTokens(t, "1[2]3", number(1), mark("["), number(2), mark("]"), number(3))
	wantTokens(t, "1\"2\"3", number(1), quoted("2"), number(3))
	for _, s := range []string{
		"00", "01", "007", "000000000000", "00 ", "01;", "0000000001",
		"1000000001", "1000000009", "1000000010", "2000000000", "4294967296", "4294967297", "9999999999", "10000000000", "9223372036854775807", "9223372036854775808", "18446744073709551616", "18446744073709551617", "1" + strings.Repeat("0", 5000),
		"1a", "0x", "0x1", "1_", "0_", "1e5", "12Z", "0b1", "1a.5", "01a",
	} {
		wantFault(t, s, api.ErrNumber, 0)
		wantFault(t, "q [\n"+s+"\xff", api.ErrNumber, 4)
	}
	wantFault(t, "1é", api.ErrToken, 1)
	wantFault(t, "１", api.ErrToken, 0)
	wantFault(t, "-1", api.ErrToken, 0)
	wantFault(t, "+1", api.ErrToken, 0)
}

// P4.2: numbers with a point: neither their digits nor how great they are matters, but for noughts ahead.
func TestScanReals(t *testing.T) {
	long := "1" + strings.Repeat("0", 5000)
	for _, s := range []string{"2.0", "0.0", "0.5", "0.000", "1.50", "10.01", "9.00700", "1000000001.0", "18446744073709551616.1", long + "." + long, "3." + strings.Repeat("0", 5000)} {
		wantTokens(t, s, real(s))
		wantTokens(t, s+";"+s+"//x", real(s), mark(";"), real(s))
	}
	for _, s := range []string{"00.5", "01.5", "007.0", "00.0", "1.5x", "1.0_", "0.5e3", "2.0q", "00.", "01.x", "1000000001.", "1000000001.x"} {
		wantFault(t, s, api.ErrNumber, 0)
	}
	wantFault(t, "1.", api.ErrToken, 1)
	wantFault(t, "0.", api.ErrToken, 1)
	wantFault(t, "1.x", api.ErrToken, 1)
	wantFault(t, "1._", api.ErrToken, 1)
	wantFault(t, "1 .5", api.ErrToken, 2)
	wantFault(t, "1. 5", api.ErrToken, 1)
	wantFault(t, "1..5", api.ErrToken, 1)
	wantFault(t, "1.5.", api.ErrToken, 3)
	wantFault(t, "1.5.5", api.ErrToken, 3)
	wantFault(t, ".5", api.ErrToken, 0)
	wantFault(t, "1.é", api.ErrToken, 1)
}

// P4.2: quoted texts hold any bytes but a quote and a byte 10.
func TestScanQuoted(t *testing.T) {
	for c := range 256 {
		s := string([]byte{byte(c)})
		switch c {
		case '"':
			wantFault(t, `"a""`, api.ErrQuote, 3)
			wantTokens(t, `"a"""`, quoted("a"), quoted(""))
		case '\n':
			wantFault(t, "\"a\n\"", api.ErrQuote, 0)
		default:
			wantTokens(t, `"`+s+`"`, quoted(s))
			wantTokens(t, `"a`+s+`b"`, quoted("a"+s+"b"))
		}
	}
	long := strings.Repeat("q ", 5000)
	for _, s := range []string{"", " ", "qelib1.inc", "// x", "é", "\xff\xfe", "\xe2\x82", "\\", "a\rb", "007", long} {
		wantTokens(t, `"`+s+`"`, quoted(s))
		wantTokens(t, `"`+s+`""`+s+`"x`, quoted(s), quoted(s), name("x"))
		wantFault(t, `"`+s, api.ErrQuote, 0)
		wantFault(t, `q"`+s, api.ErrQuote, 1)
		wantFault(t, `"`+s+"\n", api.ErrQuote, 0)
		wantFault(t, `;"`+s+"\n\"", api.ErrQuote, 1)
	}
	wantFault(t, `"a" "`, api.ErrQuote, 4)
	wantFault(t, `"\""`, api.ErrQuote, 3)
}

// P4.2: marks, and what is no whole one.
func TestScanMarks(t *testing.T) {
	for _, a := range allMarks() {
		wantTokens(t, a, mark(a))
		for _, b := range allMarks() {
			wantTokens(t, a+b, mark(a), mark(b))
			wantTokens(t, a+"q"+b+"0"+a, mark(a), name("q"), mark(b), number(0), mark(a))
		}
	}
	wantTokens(t, "====", mark("=="), mark("=="))
	for _, s := range []string{"-", "- >", "--", "-->", "-\n>", "-=", "-1", "-//\n>", "=", "= =", "=>", "=a", "=\"\"", ">", ">-", ">=", "/", "/ /", "/*", "/\n/", ".", ":", "<", "!", "'", "\\", "|", "&", "é", "\x00", "\xef\xbb\xbf"} {
		wantFault(t, s, api.ErrToken, 0)
		wantFault(t, "q,\n"+s, api.ErrToken, 3)
	}
	wantFault(t, "===", api.ErrToken, 2)
	wantFault(t, "->>", api.ErrToken, 2)
}

// P4.2: spots of tokens, behind comments and quoted texts whose runes are longer than a byte, or none.
func TestScanSpots(t *testing.T) {
	s := "q \"é\xff\"x // é\n\t\"€\" y\r\n\n  ->12 // \xe2\x82"
	l, f := token.Scan(s)
	want := []api.Spot{
		{Off: 0, Line: 1, Col: 1}, {Off: 2, Line: 1, Col: 3}, {Off: 7, Line: 1, Col: 7},
		{Off: 16, Line: 2, Col: 2}, {Off: 22, Line: 2, Col: 6},
		{Off: 28, Line: 4, Col: 3}, {Off: 30, Line: 4, Col: 5}, {Off: 38, Line: 4, Col: 13},
	}
	if f != (api.Fault{}) || len(l) != len(want) {
		t.Fatal(l, f)
	}
	for i, at := range want {
		if l[i].At != at {
			t.Errorf("%d: %+v, not %+v", i, l[i].At, at)
		}
	}
	for _, s := range []string{"", "\n", "//é\xff", "// \n "} {
		l, f := token.Scan(s)
		if f != (api.Fault{}) || len(l) != 1 || l[0] != (api.Token{At: spot(s, len(s))}) {
			t.Errorf("%q: %+v %+v", s, l, f)
		}
	}
}

// P4.2: of several faults the first one is told.
func TestScanFirstFault(t *testing.T) {
	long := strings.Repeat("a", 33)
	faults := []struct {
		s    string
		code api.Errno
	}{{"007", api.ErrNumber}, {"é", api.ErrToken}, {long, api.ErrWord}, {"\"a\n", api.ErrQuote}, {"- ", api.ErrToken}}
	for _, a := range faults {
		for _, b := range faults {
			wantFault(t, a.s+" "+b.s, a.code, 0)
			wantFault(t, "x //é\n"+a.s+" "+b.s, a.code, 7)
		}
	}
}

// R3: two answers share nothing.
func TestScanNewMemory(t *testing.T) {
	const s = "cx q[0];"
	a, _ := token.Scan(s)
	b, _ := token.Scan(s)
	for i := range a {
		a[i] = api.Token{Kind: -1}
	}
	c, _ := token.Scan(s)
	if !slices.Equal(b, c) || len(b) != 7 {
		t.Error(b, c)
	}
}

// Long lines are gone through once, not once a token; so are long rows of bytes of one kind.
func TestScanLong(t *testing.T) {
	const n = 1 << 19
	s := "\"" + strings.Repeat("é", 10) + "\"" + strings.Repeat(";0", n)
	l, f := token.Scan(s)
	if f != (api.Fault{}) || len(l) != 2*n+2 || l[2*n+1].At != (api.Spot{Off: 22 + 2*n, Line: 1, Col: 13 + 2*n}) {
		t.Error(len(l), f)
	}
	wantFault(t, strings.Repeat("a", n), api.ErrWord, 0)
	wantFault(t, strings.Repeat("9", n), api.ErrNumber, 0)
	wantFault(t, "\""+strings.Repeat("é", n), api.ErrQuote, 0)
	wantTokens(t, strings.Repeat("/", n))
	wantTokens(t, strings.Repeat("//\n", n))
}

// P4.2: some texts, against the words of the promise as patterns.
func TestScanAgainstPatterns(t *testing.T) {
	chance := rand.New(rand.NewSource(42))
	for range 40000 {
		scanAgainst(t, someText(chance))
	}
}
