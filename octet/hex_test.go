package octet_test

import (
	"bytes"
	"strings"
	"testing"

	"phasor/api"
	"phasor/octet"
)

// P1.4: digits, there and back.
func TestHex(t *testing.T) {
	for want, b := range map[string][]byte{
		"":                 nil,
		"00":               {0},
		"0f":               {15},
		"f0":               {240},
		"0123456789abcdef": {0x01, 0x23, 0x45, 0x67, 0x89, 0xab, 0xcd, 0xef},
		"00ff00":           {0, 255, 0},
	} {
		if s := octet.Hex(b); s != want {
			t.Errorf("%v: %s", b, s)
		}
		if got, e := octet.Unhex(want); !bytes.Equal(got, b) || e != api.OK {
			t.Errorf("%s: %v %d", want, got, e)
		}
	}
	if octet.Hex([]byte{}) != "" {
		t.Error("of no bytes")
	}
}

func TestHexThereAndBack(t *testing.T) {
	all := make([]byte, 256)
	for i := range all {
		all[i] = byte(i)
	}
	if b, e := octet.Unhex(octet.Hex(all)); !bytes.Equal(b, all) || e != api.OK {
		t.Error(b, e)
	}
}

// P1.4: what is no even number of digits 0-9a-f.
func TestUnhexRefuses(t *testing.T) {
	for _, s := range []string{
		"0", "f", "012", "abc",
		"0F", "F0", "AB",
		"0g", "g0", "0/", ":0", "0@", "`0", "0G", "0x", " 0", "0 ", "+1", "-1", "00\n\n", "0\x00",
		"é", "0é", "é0", "é00", "０", "００", "٣٣", "ａａ",
		"\xff", "\xff\xff", "0\xff", "00\xc3", "00\xc3\xa9", "\x80\x80",
		strings.Repeat("0", 1000) + "0g",
	} {
		if b, e := octet.Unhex(s); len(b) != 0 || e != api.ErrArg {
			t.Errorf("%q: %v %d", s, b, e)
		}
	}
	for c := range 256 {
		digit := '0' <= c && c <= '9' || 'a' <= c && c <= 'f'
		for _, s := range []string{string([]byte{byte(c), '0'}), string([]byte{'0', byte(c)})} {
			if _, e := octet.Unhex(s); (e == api.OK) != digit {
				t.Errorf("%q: %d", s, e)
			}
		}
	}
}
