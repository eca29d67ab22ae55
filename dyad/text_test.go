package dyad_test

import (
	"fmt"
	"regexp"
	"slices"
	"strings"
	"testing"

	"phasor/api"
	"phasor/dyad"
)

// P5.4: by hand.
func TestPrint(t *testing.T) {
	for _, c := range []struct {
		a    api.Dyad
		text string
	}{
		{d(0, 0, 0), "0+0i"},
		{d(0, -1, 0), "0-1i"},
		{d(-12, 0, 0), "-12+0i"},
		{d(-3, -5, 0), "-3-5i"},
		{d(1, 0, 1), "1+0i/2"},
		{d(0, -3, 10), "0-3i/1024"},
		{d(top, -top, 0), "9007199254740992-9007199254740992i"},
		{d(-top, 1, 60), "-9007199254740992+1i/1152921504606846976"},
		{d(1-top, top-1, 59), "-9007199254740991+9007199254740991i/576460752303423488"},
	} {
		if s, e := dyad.Print(c.a); s != c.text || e != api.OK {
			t.Errorf("Print %v: %q %d", c.a, s, e)
		}
		x, e := dyad.Parse(c.text)
		want(t, c.text, x, e, c.a, api.OK)
	}
}

// P5.4: Print against the library's.
func TestPrintOfAny(t *testing.T) {
	for _, a := range manyRight(55) {
		text := fmt.Sprintf("%d%+di", a.Re, a.Im)
		if a.Exp > 0 {
			text += fmt.Sprintf("/%d", int64(1)<<a.Exp)
		}
		if s, e := dyad.Print(a); s != text || e != api.OK {
			t.Errorf("Print %v: %q %d", a, s, e)
		}
		x, e := dyad.Parse(text)
		want(t, text, x, e, a, api.OK)
	}
}

// P5.4: texts that Print writes of no right dyad.
func TestParseRefuses(t *testing.T) {
	for _, s := range []string{
		"", "i", "+", "-", "/", "+i", "-i", "0", "1", "i/2", "0i", "1i", "+1i", "-1i", "1+i", "1-i", "1+1", "1+1j", "1+1I", "1i+1", "+0+0i", "+1+0i", "-0+0i", "0-0i", "3-0i", "1-0i/2",
		"03+0i", "3+00i", "-03+1i", "3+01i", "1+0i/02", "1+0i/+2", "1+0i/-2", "1+0i/1", "1+0i/0", "1+0i/", "1+0i2", "1+0i/2/2", "1+0i//2", "1+0i/3", "1+0i/6", "1+0i/2i", "1+0i/ 2", "1+0i/2.0", "1+0i/0x2", "1+0i/2_0",
		"6-4i/8", "2+2i/2", "0+0i/2", "-2+0i/4", "0+4i/1152921504606846976",
		" 1+0i", "1+0i ", "1 +0i", "1+ 0i", "1+0 i", "1+0i\n", "1+0i\x00", "1++0i", "1+-1i", "1-+1i", "1--1i", "--1+0i", "1+0ii", "1+0i1", "1,0i", "1.0+0i", "1e1+0i", "1_0+0i", "0x1+0i", "a+bi", "1+bi", "a+1i", "nan+0i", "inf+0i",
		"9007199254740993+0i", "-9007199254740993+0i", "0+9007199254740993i", "0-9007199254740993i", "9223372036854775807+0i", "-9223372036854775808+0i", "0-9223372036854775808i", "9223372036854775808+0i", "99999999999999999999+0i", "0+99999999999999999999i",
		"1+0i/2305843009213693952", "1+0i/4611686018427387904", "1+0i/9223372036854775808", "1+0i/18446744073709551616", "1+0i/36893488147419103232",
		"\u0661+0i", "1\u22120i", "1+0\u00ec", "\xff", "1+0i/\xff",
		strings.Repeat("9", 1<<20), strings.Repeat("0", 1<<20) + "1+0i", "1+0i/" + strings.Repeat("2", 1<<20), strings.Repeat("+", 1<<20), strings.Repeat("i", 1<<20), strings.Repeat("1+1i", 1<<18),
	} {
		x, e := dyad.Parse(s)
		if x != (api.Dyad{}) || e != api.ErrExact {
			t.Errorf("%.40q: %v %d", s, x, e)
		}
	}
}

// P5.4: every short text of the marks and some digits: those alone come through that a pattern, and no halves left, tell.
func TestParseShortTexts(t *testing.T) {
	form := regexp.MustCompile(`^(0|-?[1-9][0-9]*)(\+(0|[1-9][0-9]*)|-[1-9][0-9]*)i(/(2|4|8|16|32))?$`)
	const letters = "012+-i/"
	text := make([]byte, 0, 8)
	found := 0
	var grow func()
	grow = func() {
		s := string(text)
		wanted, errno := api.Dyad{}, api.ErrExact
		if m := form.FindStringSubmatch(s); m != nil {
			x := api.Dyad{Exp: max(0, slices.Index([]string{"", "2", "4", "8", "16", "32"}, m[5]))}
			fmt.Sscan(m[1], &x.Re)
			fmt.Sscan(m[2], &x.Im)
			if settle(x) == x {
				wanted, errno = x, api.OK
				found++
			}
		}
		x, e := dyad.Parse(s)
		if x != wanted || e != errno {
			t.Errorf("%q: %v %d, not %v %d", s, x, e, wanted, errno)
		}
		for i := 0; len(text) < 7 && i < len(letters); i++ {
			text = append(text, letters[i])
			grow()
			text = text[:len(text)-1]
		}
	}
	grow()
	if found < 1000 {
		t.Errorf("only %d right texts", found)
	}
}
