package token_test

import (
	"math"
	"math/rand"
	"strings"
	"testing"
	"unicode/utf8"

	"phasor/api"
	"phasor/token"
)

// spot counts as P4.1 says it.
func spot(s string, off int) api.Spot {
	off = min(max(off, 0), len(s))
	last := strings.LastIndexByte(s[:off], '\n')
	col := 1
	for begin := 0; begin < off; {
		if begin > last {
			col++
		}
		_, n := utf8.DecodeRuneInString(s[begin:])
		begin += n
	}
	return api.Spot{Off: off, Line: 1 + strings.Count(s[:off], "\n"), Col: col}
}

// P4.1: spots by hand.
func TestAt(t *testing.T) {
	for _, c := range []struct {
		s    string
		off  int
		want api.Spot
	}{
		{"", 0, api.Spot{Off: 0, Line: 1, Col: 1}},
		{"abc", 0, api.Spot{Off: 0, Line: 1, Col: 1}},
		{"abc", 2, api.Spot{Off: 2, Line: 1, Col: 3}},
		{"abc", 3, api.Spot{Off: 3, Line: 1, Col: 4}},
		{"a\nb", 1, api.Spot{Off: 1, Line: 1, Col: 2}},
		{"a\nb", 2, api.Spot{Off: 2, Line: 2, Col: 1}},
		{"a\nb", 3, api.Spot{Off: 3, Line: 2, Col: 2}},
		{"\n\n\n", 3, api.Spot{Off: 3, Line: 4, Col: 1}},
		{"\n\n\n", 2, api.Spot{Off: 2, Line: 3, Col: 1}},
		{"a\r\nb", 3, api.Spot{Off: 3, Line: 2, Col: 1}},
		{"a\rb", 2, api.Spot{Off: 2, Line: 1, Col: 3}},
		{"a\tb", 2, api.Spot{Off: 2, Line: 1, Col: 3}},
		{"é", 2, api.Spot{Off: 2, Line: 1, Col: 2}},
		{"é\né", 3, api.Spot{Off: 3, Line: 2, Col: 1}},
		{"é\néx", 5, api.Spot{Off: 5, Line: 2, Col: 2}},
		{"a\u2028b\u0085c", 7, api.Spot{Off: 7, Line: 1, Col: 5}},
		{"\U0001f600x", 4, api.Spot{Off: 4, Line: 1, Col: 2}},
	} {
		if got := token.At(c.s, c.off); got != c.want {
			t.Errorf("%q, %d: %+v, not %+v", c.s, c.off, got, c.want)
		}
	}
}

// P4.1: a byte within a rune stands behind the rune's beginning, and that rune counts once.
func TestAtWithinRunes(t *testing.T) {
	for off, col := range []int{1, 2, 3, 3, 4, 4, 4, 5, 5, 5, 5, 6} {
		want := api.Spot{Off: off + 1, Line: 2, Col: col}
		if got := token.At("\naé€\U0001f600b", off+1); got != want {
			t.Errorf("%d: %+v, not %+v", off+1, got, want)
		}
	}
}

// P4.1: bytes that begin no well formed rune are runes of their own.
func TestAtOfBadBytes(t *testing.T) {
	for _, c := range []struct {
		s   string
		col int
	}{
		{"\xff", 2}, {"\xff\xfe", 3}, {"\x80\x80\x80", 4}, {"\xc3", 2}, {"\xc3x", 3}, {"\xe2\x82", 3}, {"\xe2\x82x", 4}, {"\xf0\x9f\x98", 4},
		{"\xc0\x8a", 3}, {"\xc0\xaf", 3}, {"\xe0\x80\x8a", 4}, {"\xed\xa0\x80", 4}, {"\xf4\x90\x80\x80", 5}, {"\xf8\x88\x80\x80\x80", 6}, {"\xc3\xc3\xa9", 3}, {"\xef\xbf\xbd", 2}, {"\x00", 2},
	} {
		want := api.Spot{Off: len(c.s), Line: 1, Col: c.col}
		if got := token.At(c.s, len(c.s)); got != want {
			t.Errorf("%q: %+v, not %+v", c.s, got, want)
		}
	}
}

// P4.1: what is below 0 is byte 0, what is past the end is the end.
func TestAtBeyond(t *testing.T) {
	for _, s := range []string{"", "a", "a\né", "\n", "é\xe2\x82"} {
		for _, off := range []int{-1, -2, math.MinInt} {
			if got := token.At(s, off); got != (api.Spot{Off: 0, Line: 1, Col: 1}) {
				t.Errorf("%q, %d: %+v", s, off, got)
			}
		}
		for _, off := range []int{len(s), len(s) + 1, math.MaxInt} {
			if got := token.At(s, off); got != spot(s, len(s)) {
				t.Errorf("%q, %d: %+v", s, off, got)
			}
		}
	}
}

// P4.1: every byte of some texts, counted by the words of the promise.
func TestAtOfSomeTexts(t *testing.T) {
	chance := rand.New(rand.NewSource(41))
	for range 5000 {
		s := someText(chance)
		for off := -1; off <= len(s)+1; off++ {
			if got, want := token.At(s, off), spot(s, off); got != want {
				t.Fatalf("%q, %d: %+v, not %+v", s, off, got, want)
			}
		}
	}
}
