package token_test

import (
	"math"
	"math/rand"
	"slices"
	"strings"
	"testing"

	"phasor/api"
	"phasor/token"
)

// P4.3: names, and what is none, or more than one.
func TestName(t *testing.T) {
	for _, s := range []string{"q", "Q", "_", "q_1", "OPENQASM", "if", "a0", strings.Repeat("a", 32)} {
		if !token.Name(s) {
			t.Errorf("%q is none", s)
		}
	}
	for _, s := range []string{
		"", " ", "1", "0", "1q", "q ", " q", "q\n", "\nq", "q\t", "q\r", "q//", "q// x", "//\nq", "//q", "q r", "q;", ";q", "q-r", "q.r", "q\"\"", "\"q\"", "-q", "é", "qé", "ｑ", "q\x00", "\x00", "q\xff", "->", "2.0",
		strings.Repeat("a", 33), strings.Repeat("a", 32) + " ", strings.Repeat("a", 100000),
	} {
		if token.Name(s) {
			t.Errorf("%.60q is one", s)
		}
	}
}

// P4.3: what Name says is what Scan does.
func TestNameIsOfScan(t *testing.T) {
	chance := rand.New(rand.NewSource(43))
	for range 20000 {
		s := someText(chance)
		l, f := token.Scan(s)
		want := f.Code == api.OK && len(l) == 2 && l[0] == (api.Token{Kind: api.TokenName, Text: s, At: api.Spot{Line: 1, Col: 1}})
		if token.Name(s) != want {
			t.Fatalf("%q: %v", s, !want)
		}
	}
}

// P4.4: what tokens are written as, whatever their spots.
func TestWrite(t *testing.T) {
	long := strings.Repeat("7", 5000)
	for _, c := range []struct {
		t    api.Token
		want string
	}{
		{api.Token{}, ""},
		{name("q"), "q"}, {name("_"), "_"}, {name("if"), "if"}, {name(strings.Repeat("Z", 32)), strings.Repeat("Z", 32)},
		{number(0), "0"}, {number(7), "7"}, {number(10), "10"}, {number(4096), "4096"}, {number(1000000000), "1000000000"},
		{real("2.0"), "2.0"}, {real("0.00"), "0.00"}, {real("10.5"), "10.5"}, {real(long + "." + long), long + "." + long},
		{quoted(""), `""`}, {quoted("qelib1.inc"), `"qelib1.inc"`}, {quoted(" // é\xff\r\x00\\ "), "\" // é\xff\r\x00\\ \""}, {quoted(long), `"` + long + `"`},
		{mark(";"), ";"}, {mark("->"), "->"}, {mark("=="), "=="}, {mark("{"), "{"},
	} {
		for _, at := range []api.Spot{{}, {Off: 3, Line: 1, Col: 4}, {Off: -1, Line: -7, Col: math.MaxInt}} {
			c.t.At = at
			if s, e := token.Write(c.t); s != c.want || e != api.OK {
				t.Errorf("%.80v: %.80q %d", c.t, s, e)
			}
		}
	}
	for _, m := range allMarks() {
		if s, e := token.Write(mark(m)); s != m || e != api.OK {
			t.Errorf("%q: %q %d", m, s, e)
		}
	}
}

// wrong are tokens that Scan never gives.
func wrong() []api.Token {
	l := []api.Token{
		number(-1), number(math.MinInt), number(1000000001), number(math.MaxInt),
		{Kind: api.TokenEnd, Text: "q"}, {Kind: api.TokenEnd, Text: " "}, {Kind: api.TokenEnd, Text: "//"}, {Kind: api.TokenEnd, Int: 1},
		{Kind: api.TokenName, Text: "q", Int: 1}, {Kind: api.TokenName, Text: "q", Int: -1}, {Kind: api.TokenInt, Text: "7", Int: 7}, {Kind: api.TokenInt, Text: "0"}, {Kind: api.TokenInt, Text: " "},
		{Kind: api.TokenReal, Text: "2.0", Int: 2}, {Kind: api.TokenText, Text: "a", Int: 1}, {Kind: api.TokenMark, Text: ";", Int: 1},
		quoted("\""), quoted("a\"b"), quoted("\n"), quoted("a\nb"), quoted("a\""), quoted("\"a"), quoted("\" \""), quoted("\";\""),
	}
	for _, s := range []string{"", " ", "1", "q ", " q", "q r", "q;", "q//", "é", "q\n", "2.0", "\"q\"", ";", strings.Repeat("a", 33)} {
		l = append(l, name(s))
	}
	for _, s := range []string{"", "2", "2.", ".0", ".", "0", "00.5", "01.5", "2.0 ", " 2.0", "-2.0", "+2.0", "2.0x", "2.0.0", "1e5", "1.5e5", "2,0", "2.0//", "q", "２.0", ";", "2.0;"} {
		l = append(l, real(s))
	}
	for _, s := range []string{"", " ", "-", "=", ">", ".", ":", "/", "//", "; ", " ;", ";;", "()", "- >", "===", "->;", "q", "1", "2.0", "\"\"", "é", "<-", "=>"} {
		l = append(l, mark(s))
	}
	for _, kind := range []api.TokenKind{-1, 6, 7, math.MinInt, math.MaxInt} {
		l = append(l, api.Token{Kind: kind}, api.Token{Kind: kind, Text: "q"}, api.Token{Kind: kind, Text: ";"}, api.Token{Kind: kind, Int: 7})
	}
	return l
}

// P4.4: what Scan cannot give is not written.
func TestWriteRefuses(t *testing.T) {
	for _, w := range wrong() {
		if s, e := token.Write(w); s != "" || e != api.ErrArg {
			t.Errorf("%+v: %q %d", w, s, e)
		}
		w.At = api.Spot{Off: 1, Line: 1, Col: 2}
		if s, e := token.Write(w); s != "" || e != api.ErrArg {
			t.Errorf("%+v: %q %d", w, s, e)
		}
	}
}

// canBe tells by patterns whether Scan can give a token.
func canBe(t api.Token) bool {
	switch t.Kind {
	case api.TokenEnd:
		return t.Text == "" && t.Int == 0
	case api.TokenName:
		return wholeName.MatchString(t.Text) && t.Int == 0
	case api.TokenInt:
		return t.Text == "" && 0 <= t.Int && t.Int <= 1000000000
	case api.TokenReal:
		return wholeReal.MatchString(t.Text) && t.Int == 0
	case api.TokenText:
		return !strings.ContainsAny(t.Text, "\"\n") && t.Int == 0
	case api.TokenMark:
		return slices.Contains(allMarks(), t.Text) && t.Int == 0
	}
	return false
}

// P4.4: of any kind, text and number: just what Scan can give is taken.
func TestWriteOfAll(t *testing.T) {
	chance := rand.New(rand.NewSource(44))
	for range 40000 {
		w := api.Token{Kind: api.TokenKind(chance.Intn(8) - 1), Text: someText(chance), Int: []int{0, 0, 0, 1, -1, 1000000000, 1000000001}[chance.Intn(7)]}
		if chance.Intn(3) == 0 {
			w.Text = pieces()[chance.Intn(len(pieces()))]
		}
		s, e := token.Write(w)
		if want := canBe(w); want != (e == api.OK) || !want && (s != "" || e != api.ErrArg) {
			t.Fatalf("%+v: %q %d", w, s, e)
		}
	}
}

// P4.4: texts with a blank between each two.
func TestJoin(t *testing.T) {
	for _, c := range []struct {
		l    []api.Token
		want string
	}{
		{nil, ""}, {[]api.Token{}, ""}, {[]api.Token{{}}, ""},
		{[]api.Token{name("q")}, "q"}, {[]api.Token{name("q"), {}}, "q "}, {[]api.Token{name("q"), name("r")}, "q r"},
		{[]api.Token{number(1), real("2.5"), quoted("a  b"), mark("->"), mark(";")}, `1 2.5 "a  b" -> ;`},
		{[]api.Token{quoted(""), quoted(""), {At: api.Spot{Off: 9, Line: 9, Col: 9}}}, `"" "" `},
	} {
		if s, e := token.Join(c.l); s != c.want || e != api.OK {
			t.Errorf("%+v: %q %d", c.l, s, e)
		}
	}
}

// P4.4: one that Write refuses, wherever it stands; an end that is not the last.
func TestJoinRefuses(t *testing.T) {
	for _, w := range wrong() {
		for _, l := range [][]api.Token{{w}, {w, name("q")}, {name("q"), w}, {name("q"), w, {}}, {name("q"), name("r"), w, mark(";")}} {
			if s, e := token.Join(l); s != "" || e != api.ErrArg {
				t.Errorf("%+v: %q %d", l, s, e)
			}
		}
	}
	for _, l := range [][]api.Token{{{}, {}}, {{}, name("q")}, {name("q"), {}, {}}, {name("q"), {}, name("r")}, {{}, name("q"), {}}} {
		if s, e := token.Join(l); s != "" || e != api.ErrArg {
			t.Errorf("%+v: %q %d", l, s, e)
		}
	}
}

// R3: what is handed in is not changed; room behind its end is not looked at.
func TestJoinLeavesItsList(t *testing.T) {
	l := []api.Token{name("q"), {Kind: api.TokenInt, Int: 3, At: api.Spot{Off: 2, Line: 1, Col: 3}}, {At: api.Spot{Off: 3, Line: 1, Col: 4}}, number(-1)}
	before := slices.Clone(l)
	if s, e := token.Join(l[:3]); s != "q 3 " || e != api.OK {
		t.Errorf("%q %d", s, e)
	}
	if !slices.Equal(l, before) {
		t.Error(l)
	}
}
