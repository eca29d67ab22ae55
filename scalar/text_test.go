package scalar_test

import (
	"math"
	"math/big"
	"strconv"
	"strings"
	"testing"

	"phasor/api"
	"phasor/scalar"
)

// P2.7: texts by hand, there and back.
func TestPrintAndParse(t *testing.T) {
	for _, c := range []struct {
		x    float64
		want string
	}{
		{nan, "nan"}, {inf, "inf"}, {-inf, "-inf"}, {0, "0"}, {minus0, "-0"},
		{1, "0x1p0"}, {-1, "-0x1p0"}, {2, "0x1p1"}, {0.5, "0x1p-1"}, {-0.75, "-0x1.8p-1"}, {10, "0x1.4p3"},
		{1.0625, "0x1.1p0"}, {1 + 0x1p-8, "0x1.01p0"}, {1 + 0x1p-52, "0x1.0000000000001p0"}, {1 + 0x1p-49, "0x1.0000000000008p0"}, {1 + 0x1p-48, "0x1.000000000001p0"},
		{0x1.23456789abcdep-7, "0x1.23456789abcdep-7"}, {-0x1.fedcba987654p10, "-0x1.fedcba987654p10"}, {0x1.0f0p100, "0x1.0fp100"},
		{least, "0x1p-1074"}, {-3 * least, "-0x1.8p-1073"}, {5 * least, "0x1.4p-1072"}, {17 * least, "0x1.1p-1070"}, {257 * least, "0x1.01p-1066"},
		{normal, "0x1p-1022"}, {normal - least, "0x1.ffffffffffffep-1023"}, {normal + least, "0x1.0000000000001p-1022"},
		{most, "0x1.fffffffffffffp1023"}, {-0x1p1023, "-0x1p1023"},
	} {
		if got := scalar.Print(c.x); got != c.want {
			t.Errorf("%x: %s, not %s", c.x, got, c.want)
		}
		x, e := scalar.Parse(c.want)
		wantFloat(t, c.want, x, c.x)
		if e != api.OK {
			t.Errorf("%s: %d", c.want, e)
		}
	}
	for _, x := range nans() {
		if got := scalar.Print(x); got != "nan" {
			t.Error("a NaN:", got)
		}
	}
}

// P2.7, P2.9: Print against the library, and back again.
func TestPrintOfAll(t *testing.T) {
	for _, x := range samples() {
		s := scalar.Print(x)
		if want := printed(x); s != want {
			t.Errorf("%x: %s, not %s", x, s, want)
		}
		y, e := scalar.Parse(s)
		wantFloat(t, s, y, x)
		if e != api.OK {
			t.Errorf("%s: %d", s, e)
		}
	}
}

// printed is the library's text, whose powers have a sign and two digits at least.
func printed(x float64) string {
	switch {
	case x != x:
		return "nan"
	case math.IsInf(x, 0):
		return strings.TrimPrefix(strings.ToLower(strconv.FormatFloat(x, 'g', -1, 64)), "+")
	case x == 0:
		return strconv.FormatFloat(x, 'f', 0, 64)
	}
	digits, power, _ := strings.Cut(strconv.FormatFloat(x, 'x', -1, 64), "p")
	e, _ := strconv.Atoi(power)
	return digits + "p" + strconv.Itoa(e)
}

// P2.7: what Print does not write.
func TestParseRefuses(t *testing.T) {
	long := strings.Repeat("0", 5000)
	for _, s := range []string{
		"", " ", "-", "+", ".", "p", "x", "0x", "1", "-1", "2", "10", "00", "-00", "+0", "--0", "0.", "0.0", "0.5", "1e3", "0p0", "0x0", "0x0p0", "-0x0p0",
		"NaN", "-nan", "+nan", "nan ", " nan", "nano", "na", "Inf", "+inf", "INF", "infinity", "--inf", "-Inf", "-NaN", "in",
		"0x1", "0x1p", "0x1p-", "0x1p+", "0x1.p0", "0x1.", "0x1.8", "0x1.8p", "0x.8p0", "0x.1p0", "x1p0", "1p0", "8p0", "p0", ".8p0", "0x8p0", "0x2p0", "0x3p0", "0x10p0", "0x11p0", "0x18p0", "0x0.8p0", "0xap0",
		"+0x1p0", "--0x1p0", "-+0x1p0", " 0x1p0", "0x1p0 ", "0x1p0\n", "0x1p0\x00", "0x1 p0", "0x1p 0", "0x 1p0", "- 0x1p0",
		"0X1p0", "0x1P0", "0x1.Ap0", "0x1.8P0", "0x1.aAp0", "0x1.gp0", "0x1.8gp0", "0x1..8p0", "0x1.8.p0", "0x1,8p0", "0x1._8p0", "0x1_.8p0", "0x1.8_8p0", "0x1.-8p0", "0x1.+8p0",
		"0x1.0p0", "0x1.80p0", "0x1.8000p0", "0x1.00p0", "0x1.10p0", "0x1.80000000000000p0", "0x1.00000000000001p0", "0x1.ffffffffffffffp0", "0x1.fffffffffffff0p0", "0x1.fffffffffffff8p0", "0x1.fffffffffffffffffp0", "0x1.00000000000000000000000008p0",
		"0x1p00", "0x1p01", "0x1p-0", "0x1p+0", "0x1p+1", "0x1p-01", "0x1p--1", "0x1p1-", "0x1p1.0", "0x1p1p1", "0x1p0x1", "0x1pa", "0x1p1_0", "0x1p１", "0x１p0", "0x1.８p0", "0x1p0é", "\xff", "0x1p0\xff",
		"0x1p1024", "-0x1p1024", "0x1p-1075", "-0x1p-1075", "0x1p9999", "0x1p-9999", "0x1.8p-1074", "0x1.4p-1073", "0x1.fffffffffffffp-1023", "0x1.0000000000001p-1023", "0x1.fffffffffffffp1024", "0x1.1p-1071", "0x1.2p-1072",
		"0x1p9223372036854775807", "0x1p-9223372036854775808", "0x1.8p-9223372036854775808", "0x1.8p9223372036854775807", "0x1p9223372036854775808", "0x1p18446744073709551616", "0x1p18446744073709551615", "0x1.8p-9223372036854775807",
		"0x1p" + long, "0x1." + long + "p0", "0x1p1" + long, long, "-" + long, "0x1." + long + "1p0", "0x" + long + "1p0",
	} {
		if x, e := scalar.Parse(s); !same(x, 0) || e != api.ErrFloat {
			t.Errorf("%.60q: %x %d", s, x, e)
		}
	}
}

// P2.7: whatever one character of a text is turned into, taken away or put in, Parse takes it just if Print writes it.
func TestParseOfTurnedTexts(t *testing.T) {
	const marks = "0123456789abcdefpx.-+AFPX_ g\x00\xff"
	texts := []string{"nan", "inf", "-inf", "0", "-0", "0x1p0", "-0x1.8p-1", "0x1p-1074", "-0x1.4p-1072", "0x1.fffffffffffffp1023", "0x1.0000000000001p-1022", "0x1.ffffffffffffep-1023", "0x1.08p100", "0x1p1023"}
	for _, s := range texts {
		for i := range len(s) + 1 {
			for _, m := range []byte(marks) {
				parseTurned(t, s[:i]+string([]byte{m})+s[i:])
				if i < len(s) {
					parseTurned(t, s[:i]+string([]byte{m})+s[i+1:])
				}
			}
			if i < len(s) {
				parseTurned(t, s[:i]+s[i+1:])
			}
		}
	}
}

// parseTurned holds Parse against the library, which reads all that Print writes, and more.
func parseTurned(t *testing.T, s string) {
	t.Helper()
	want, err := strconv.ParseFloat(s, 64)
	written := err == nil && printed(want) == s
	x, e := scalar.Parse(s)
	if written && (e != api.OK || !same(x, want)) {
		t.Errorf("%q is refused: %d", s, e)
	}
	if !written && (e != api.ErrFloat || !same(x, 0)) {
		t.Errorf("%q is taken: %x %d", s, x, e)
	}
}

// P2.8: decimal texts by hand.
func TestFixed(t *testing.T) {
	for _, c := range []struct {
		x      float64
		digits int
		want   string
	}{
		{nan, 0, "nan"}, {nan, 40, "nan"}, {inf, 2, "inf"}, {-inf, 3, "-inf"}, {inf, 0, "inf"},
		{0, 0, "0"}, {0, 1, "0.0"}, {0, 40, "0." + strings.Repeat("0", 40)}, {minus0, 0, "-0"}, {minus0, 2, "-0.00"},
		{1, 0, "1"}, {-1, 3, "-1.000"}, {12, 1, "12.0"}, {100, 0, "100"},
		{0.5, 0, "0"}, {1.5, 0, "2"}, {2.5, 0, "2"}, {3.5, 0, "4"}, {-0.5, 0, "-0"}, {-1.5, 0, "-2"}, {-2.5, 0, "-2"}, {9.5, 0, "10"}, {99.5, 0, "100"}, {0.5, 1, "0.5"},
		{0.125, 2, "0.12"}, {0.375, 2, "0.38"}, {0.625, 2, "0.62"}, {0.875, 2, "0.88"}, {-0.125, 2, "-0.12"}, {0.125, 3, "0.125"}, {0.125, 5, "0.12500"}, {0.125, 1, "0.1"}, {0.25, 1, "0.2"}, {0.75, 1, "0.8"}, {0.0625, 3, "0.062"}, {0.1875, 3, "0.188"},
		{0.5 - 0x1p-54, 0, "0"}, {0.5 + 0x1p-53, 0, "1"}, {0.125 + 0x1p-55, 2, "0.13"}, {0.375 - 0x1p-54, 2, "0.37"},
		{-0.001, 2, "-0.00"}, {0.001, 2, "0.00"}, {0.005, 2, "0.01"}, {0.015, 2, "0.01"}, {0.96, 1, "1.0"}, {0.999, 2, "1.00"}, {-0.999, 2, "-1.00"}, {9.96, 1, "10.0"}, {0.04, 1, "0.0"}, {0.06, 1, "0.1"},
		{0.1, 40, "0.1000000000000000055511151231257827021182"},
		{least, 40, "0." + strings.Repeat("0", 40)}, {-least, 0, "-0"},
		{1e21, 1, "1000000000000000000000.0"}, {1e23, 0, "99999999999999991611392"}, {1 << 53, 0, "9007199254740992"},
	} {
		if s, e := scalar.Fixed(c.x, c.digits); s != c.want || e != api.OK {
			t.Errorf("%x, %d: %s %d, not %s", c.x, c.digits, s, e, c.want)
		}
	}
}

// P2.8: how many digits there may be; with an error there is no text, of whichever float.
func TestFixedDigits(t *testing.T) {
	if api.MaxDigits != 40 {
		t.Fatal(api.MaxDigits)
	}
	for _, x := range []float64{0, -1.5, most, inf, nan} {
		for _, digits := range []int{math.MinInt, -40, -2, -1, 41, 42, 1000, math.MaxInt} {
			if s, e := scalar.Fixed(x, digits); s != "" || e != api.ErrArg {
				t.Errorf("%x, %d: %s %d", x, digits, s, e)
			}
		}
		for digits := range 41 {
			if s, e := scalar.Fixed(x, digits); s == "" || e != api.OK {
				t.Errorf("%x, %d: %s %d", x, digits, s, e)
			}
		}
	}
}

// P2.8: Fixed against big numbers: the exact value, and all ties of it.
func TestFixedAgainstBigNumbers(t *testing.T) {
	l := samples()
	for n := range int64(400) {
		for e := range 14 {
			l = append(l, math.Ldexp(float64(2*n+1), -e), -math.Ldexp(float64(2*n+1), -e))
		}
	}
	for i, x := range l {
		if !isFinite(x) {
			continue
		}
		for _, digits := range []int{0, 1, 2, 3, 5, 12, 13, i % 41, 40} {
			s, e := scalar.Fixed(x, digits)
			if want := decimal(x, digits); s != want || e != api.OK {
				t.Fatalf("%x, %d: %s %d, not %s", x, digits, s, e, want)
			}
		}
	}
}

// decimal rounds the exact value, times ten to the power digits, to an integer.
func decimal(x float64, digits int) string {
	scaled := new(big.Rat).SetFloat64(math.Abs(x))
	scaled.Mul(scaled, new(big.Rat).SetInt(new(big.Int).Exp(big.NewInt(10), big.NewInt(int64(digits)), nil)))
	n, rest := new(big.Int).QuoRem(scaled.Num(), scaled.Denom(), new(big.Int))
	switch rest.Lsh(rest, 1).Cmp(scaled.Denom()) {
	case 1:
		n.Add(n, big.NewInt(1))
	case 0:
		n.Add(n, big.NewInt(int64(n.Bit(0))))
	}
	s := n.String()
	s = strings.Repeat("0", max(0, digits+1-len(s))) + s
	if digits > 0 {
		s = s[:len(s)-digits] + "." + s[len(s)-digits:]
	}
	if math.Signbit(x) {
		s = "-" + s
	}
	return s
}
