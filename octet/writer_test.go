package octet_test

import (
	"math"
	"strings"
	"testing"

	"phasor/api"
	"phasor/octet"
)

// Texts that are no valid UTF-8: a lone byte, a cut-off rune, a byte that goes on with nothing, a rune in too many bytes, a surrogate, a rune above the last.
var badTexts = []string{"\xff", "a\xc3", "\xa9", "\xc0\x80", "\xed\xa0\x80", "\xf4\x90\x80\x80", strings.Repeat("a", 4095) + "\xff"}

func wantBytes(t *testing.T, what string, got []byte, want string) {
	t.Helper()
	if h := octet.Hex(got); h != want {
		t.Errorf("%s: %s, not %s", what, h, want)
	}
}

// P1.1: numbers, floats and texts are appended.
func TestWriterNumbers(t *testing.T) {
	w := octet.Writer{}
	w.U8(0xfe)
	w.U16(0x0102)
	w.U32(0x03040506)
	w.U64(0x0708090a0b0c0d0e)
	wantBytes(t, "numbers", w.B, "fe"+"0201"+"06050403"+"0e0d0c0b0a090807")

	w = octet.Writer{}
	w.U8(0)
	w.U16(0)
	w.U32(0)
	w.U64(0)
	wantBytes(t, "noughts", w.B, strings.Repeat("00", 15))

	w = octet.Writer{}
	w.U8(math.MaxUint8)
	w.U16(math.MaxUint16)
	w.U32(math.MaxUint32)
	w.U64(math.MaxUint64)
	wantBytes(t, "greatest", w.B, strings.Repeat("ff", 15))
}

func TestWriterAppends(t *testing.T) {
	w := octet.Writer{B: []byte{9, 8}}
	w.U8(7)
	if e := w.Text("a"); e != api.OK {
		t.Error(e)
	}
	wantBytes(t, "behind what was there", w.B, "090807"+"010061")
}

func TestWriterF64(t *testing.T) {
	for want, v := range map[string]float64{
		"0000000000000000": 0,
		"0000000000000080": math.Copysign(0, -1),
		"000000000000f03f": 1,
		"00000000000000c0": -2,
		"000000000000f07f": math.Inf(1),
		"000000000000f0ff": math.Inf(-1),
		"0100000000000000": math.SmallestNonzeroFloat64,
		"ffffffffffffef7f": math.MaxFloat64,
	} {
		w := octet.Writer{}
		w.F64(v)
		wantBytes(t, "F64", w.B, want)
	}
	for _, bits := range []uint64{0x7ff8000000000001, 0x7ff8000000000000, 0x7ff0000000000001, 0xfff0000000000001, 0xfff8000000000000, 0x7fffffffffffffff, 0xffffffffffffffff} {
		w := octet.Writer{}
		w.F64(math.Float64frombits(bits))
		wantBytes(t, "F64 of a NaN", w.B, "010000000000f87f")
	}
}

func TestWriterF32(t *testing.T) {
	for want, v := range map[string]float32{
		"00000000": 0,
		"00000080": float32(math.Copysign(0, -1)),
		"0000003f": 0.5,
		"000080bf": -1,
		"0000807f": float32(math.Inf(1)),
		"000080ff": float32(math.Inf(-1)),
		"01000000": math.SmallestNonzeroFloat32,
		"ffff7f7f": math.MaxFloat32,
	} {
		w := octet.Writer{}
		w.F32(v)
		wantBytes(t, "F32", w.B, want)
	}
	for _, bits := range []uint32{0x7fc00000, 0x7fc00001, 0x7f800001, 0xff800001, 0xffc00000, 0x7fffffff, 0xffffffff} {
		w := octet.Writer{}
		w.F32(math.Float32frombits(bits))
		wantBytes(t, "F32 of a NaN", w.B, "0000c07f")
	}
}

func TestWriterText(t *testing.T) {
	long := strings.Repeat("é", 2048)
	for s, want := range map[string]string{
		"":             "0000",
		"é":            "0200c3a9",
		"a\x00b":       "0300610062",
		"\ufffd":       "0300efbfbd",
		"\U0010ffff":   "0400f48fbfbf",
		long:           "0010" + strings.Repeat("c3a9", 2048),
		long[:2*200]:   "9001" + strings.Repeat("c3a9", 200),
		"\u0065\u0301": "030065cc81",
	} {
		w := octet.Writer{}
		if e := w.Text(s); e != api.OK {
			t.Errorf("Text of %d bytes: %d", len(s), e)
		}
		wantBytes(t, "Text", w.B, want)
	}
}

func TestWriterTextRefused(t *testing.T) {
	w := octet.Writer{B: []byte{1, 2, 3}}
	for _, s := range badTexts {
		if e := w.Text(s); e != api.ErrText {
			t.Errorf("%q: %d", s, e)
		}
	}
	for _, s := range []string{strings.Repeat("a", 4097), strings.Repeat("\xff", 4097), strings.Repeat("a", 1<<16), strings.Repeat("a", 1<<16+1)} {
		if e := w.Text(s); e != api.ErrLong {
			t.Errorf("%d bytes: %d", len(s), e)
		}
	}
	wantBytes(t, "behind refused texts", w.B, "010203")
}

// P1.1 and R1: a nil Writer.
func TestWriterNil(t *testing.T) {
	var w *octet.Writer
	w.U8(1)
	w.U16(1)
	w.U32(1)
	w.U64(1)
	w.F64(1)
	w.F32(1)
	for _, s := range []string{"", "a", "\xff", strings.Repeat("a", 4097)} {
		if e := w.Text(s); e != api.ErrNil {
			t.Errorf("%d bytes: %d", len(s), e)
		}
	}
}
