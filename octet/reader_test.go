package octet_test

import (
	"math"
	"strings"
	"testing"

	"phasor/api"
	"phasor/octet"
)

// reads has each of a Reader's reading calls: how many bytes it takes, and the call, which tells whether what it answered is zero.
var reads = []struct {
	name string
	size int
	call func(r *octet.Reader) (bool, api.Errno)
}{
	{"U8", 1, func(r *octet.Reader) (bool, api.Errno) { v, e := r.U8(); return v == 0, e }},
	{"U16", 2, func(r *octet.Reader) (bool, api.Errno) { v, e := r.U16(); return v == 0, e }},
	{"U32", 4, func(r *octet.Reader) (bool, api.Errno) { v, e := r.U32(); return v == 0, e }},
	{"U64", 8, func(r *octet.Reader) (bool, api.Errno) { v, e := r.U64(); return v == 0, e }},
	{"F64", 8, func(r *octet.Reader) (bool, api.Errno) { v, e := r.F64(); return math.Float64bits(v) == 0, e }},
	{"F32", 4, func(r *octet.Reader) (bool, api.Errno) { v, e := r.F32(); return math.Float32bits(v) == 0, e }},
	{"Text", 2, func(r *octet.Reader) (bool, api.Errno) { v, e := r.Text(); return v == "", e }},
}

func unhex(t *testing.T, s string) []byte {
	t.Helper()
	b, e := octet.Unhex(s)
	if e != api.OK {
		t.Fatalf("%s: %d", s, e)
	}
	return b
}

// P1.2: what stands there is read.
func TestReaderNumbers(t *testing.T) {
	r := octet.NewReader(unhex(t, "fe"+"0201"+"06050403"+"0e0d0c0b0a090887"+"77"))
	if v, e := r.U8(); v != 0xfe || e != api.OK || r.Left() != 15 {
		t.Error(v, e, r.Left())
	}
	if v, e := r.U16(); v != 0x0102 || e != api.OK || r.Left() != 13 {
		t.Error(v, e, r.Left())
	}
	if v, e := r.U32(); v != 0x03040506 || e != api.OK || r.Left() != 9 {
		t.Error(v, e, r.Left())
	}
	if v, e := r.U64(); v != 0x8708090a0b0c0d0e || e != api.OK || r.Left() != 1 {
		t.Error(v, e, r.Left())
	}
	if e := r.End(); e != api.ErrTail {
		t.Error(e)
	}
	if v, e := r.U8(); v != 0x77 || e != api.OK || r.Left() != 0 || r.End() != api.OK {
		t.Error(v, e, r.Left(), r.End())
	}
}

func TestReaderFloats(t *testing.T) {
	for _, bits := range []uint64{0, 1 << 63, 0x3ff0000000000000, 0x7ff0000000000000, 0xfff0000000000000, 1, 0x7fefffffffffffff} {
		w := octet.Writer{}
		w.U64(bits)
		if v, e := octet.NewReader(w.B).F64(); math.Float64bits(v) != bits || e != api.OK {
			t.Errorf("%x: %v %d", bits, v, e)
		}
	}
	for _, bits := range []uint32{0, 1 << 31, 0x3f000000, 0x7f800000, 0xff800000, 1, 0x7f7fffff} {
		w := octet.Writer{}
		w.U32(bits)
		if v, e := octet.NewReader(w.B).F32(); math.Float32bits(v) != bits || e != api.OK {
			t.Errorf("%x: %v %d", bits, v, e)
		}
	}
	for _, s := range []string{"010000000000f87f", "010000000000f07f", "010000000000f0ff", "ffffffffffffffff"} {
		if v, e := octet.NewReader(unhex(t, s)).F64(); v == v || e != api.OK {
			t.Error(s, v, e)
		}
	}
	for _, s := range []string{"0000c07f", "0100807f", "010080ff", "ffffffff"} {
		if v, e := octet.NewReader(unhex(t, s)).F32(); v == v || e != api.OK {
			t.Error(s, v, e)
		}
	}
}

// P1.2: with an error nothing is taken.
func TestReaderShort(t *testing.T) {
	for _, x := range reads {
		for size := range x.size {
			r := octet.NewReader(make([]byte, size))
			for range 2 {
				if zero, e := x.call(r); !zero || e != api.ErrShort || r.Left() != size {
					t.Error(x.name, size, zero, e, r.Left())
				}
			}
		}
		r := octet.NewReader([]byte(strings.Repeat("\xff", x.size-1)))
		if zero, e := x.call(r); !zero || e != api.ErrShort {
			t.Error(x.name, "of ones", zero, e)
		}
		r = octet.NewReader(make([]byte, x.size))
		if _, e := x.call(r); e != api.OK || r.End() != api.OK {
			t.Error(x.name, "just enough", e, r.Left())
		}
	}
}

func TestReaderGoesOnBehindAnError(t *testing.T) {
	r := octet.NewReader(unhex(t, "0200ff"))
	if _, e := r.U64(); e != api.ErrShort {
		t.Error(e)
	}
	if _, e := r.Text(); e != api.ErrShort {
		t.Error(e)
	}
	if v, e := r.U16(); v != 2 || e != api.OK {
		t.Error(v, e)
	}
	if v, e := r.U8(); v != 255 || e != api.OK || r.End() != api.OK {
		t.Error(v, e, r.End())
	}
}

func TestReaderText(t *testing.T) {
	r := octet.NewReader(unhex(t, "0000"+"0200c3a9"+"0100617a"))
	for _, want := range []string{"", "é", "a"} {
		if s, e := r.Text(); s != want || e != api.OK {
			t.Errorf("%q %d, not %q", s, e, want)
		}
	}
	if r.Left() != 1 || r.End() != api.ErrTail {
		t.Error(r.Left(), r.End())
	}
	long := strings.Repeat("a", 4096)
	if s, e := octet.NewReader([]byte("\x00\x10" + long)).Text(); s != long || e != api.OK {
		t.Error(len(s), e)
	}
}

func TestReaderTextRefused(t *testing.T) {
	type row struct {
		bytes string
		want  api.Errno
	}
	rows := []row{
		{"", api.ErrShort},
		{"\x01", api.ErrShort},
		{"\xff", api.ErrShort},
		{"\x01\x00", api.ErrShort},
		{"\x02\x00a", api.ErrShort},
		{"\x02\x00\xff", api.ErrShort},
		{"\x00\x10", api.ErrShort},
		{"\x00\x10" + strings.Repeat("a", 4095), api.ErrShort},
		{"\x01\x10", api.ErrLong},
		{"\xff\xff", api.ErrLong},
		{"\x01\x10" + strings.Repeat("a", 4097), api.ErrLong},
		{"\x01\x10" + strings.Repeat("\xff", 4097), api.ErrLong},
	}
	for _, s := range badTexts {
		rows = append(rows, row{string([]byte{byte(len(s)), byte(len(s) >> 8)}) + s, api.ErrText})
	}
	rows = append(rows, row{"\x01\x00\xc3\xa9", api.ErrText})
	for _, x := range rows {
		r := octet.NewReader([]byte(x.bytes))
		for range 2 {
			if s, e := r.Text(); s != "" || e != x.want || r.Left() != len(x.bytes) {
				t.Errorf("%.8q of %d: %q %d, not %d", x.bytes, len(x.bytes), s, e, x.want)
			}
		}
	}
}

func TestReaderOfNothing(t *testing.T) {
	for _, b := range [][]byte{nil, {}} {
		r := octet.NewReader(b)
		if r == nil || r.Left() != 0 || r.End() != api.OK {
			t.Error("a reader of nothing")
		}
		for _, x := range reads {
			if zero, e := x.call(r); !zero || e != api.ErrShort {
				t.Error(x.name, zero, e)
			}
		}
	}
}

// P1.2 and R1: a nil Reader, and one that NewReader did not make.
func TestReaderNobodys(t *testing.T) {
	for _, r := range []*octet.Reader{nil, {}, new(octet.Reader)} {
		for _, x := range reads {
			if zero, e := x.call(r); !zero || e != api.ErrNil {
				t.Error(x.name, zero, e)
			}
		}
		if r.Left() != 0 || r.End() != api.ErrNil {
			t.Error(r.Left(), r.End())
		}
	}
}

// R3: what is handed in is kept nowhere.
func TestReaderKeepsNothing(t *testing.T) {
	b := []byte("\x07\x01\x00a")
	r := octet.NewReader(b)
	other := octet.NewReader(b)
	clear(b)
	if v, e := r.U8(); v != 7 || e != api.OK || other.Left() != 4 {
		t.Error(v, e, other.Left())
	}
	if s, e := r.Text(); s != "a" || e != api.OK {
		t.Error(s, e)
	}
}
