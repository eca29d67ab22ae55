package octet_test

import (
	"math"
	"strings"
	"testing"

	"phasor/api"
	"phasor/octet"
)

func same64(a, b float64) bool {
	return math.Float64bits(a) == math.Float64bits(b) || a != a && b != b
}

func same32(a, b float32) bool {
	return math.Float32bits(a) == math.Float32bits(b) || a != a && b != b
}

// FuzzThereAndBack is P1.5: it lays one of each kind down, twice over, and reads them again; End is OK behind the last.
func FuzzThereAndBack(f *testing.F) {
	f.Add(uint64(0), "")
	f.Add(uint64(math.MaxUint64), "é")
	f.Add(uint64(1)<<63, strings.Repeat("a", 4096))
	f.Add(uint64(1)<<31, strings.Repeat("a", 4097))
	f.Add(uint64(0x7ff0000000000001), "\xff")
	f.Add(uint64(0x7ff000007f800000), "a\x00b")
	f.Add(uint64(0xfff00000ff800000), "\u2028\U0001f600")
	f.Add(uint64(0x7ff800007fc00001), "circuit")
	f.Add(uint64(0x0102030405060708), "q")
	f.Fuzz(func(t *testing.T, v uint64, s string) {
		w := octet.Writer{}
		var e [2]api.Errno
		for i := range 2 {
			w.U8(uint8(v))
			w.U16(uint16(v))
			w.U32(uint32(v))
			w.U64(v)
			w.F64(math.Float64frombits(v))
			w.F32(math.Float32frombits(uint32(v)))
			e[i] = w.Text(s)
		}
		r := octet.NewReader(w.B)
		for i := range 2 {
			readBack(t, r, v)
			if e[i] != api.OK {
				continue
			}
			if got, e := r.Text(); got != s || e != api.OK {
				t.Errorf("%q: %q %d", s, got, e)
			}
		}
		if r.Left() != 0 || r.End() != api.OK {
			t.Error(r.Left(), r.End())
		}
	})
}

func readBack(t *testing.T, r *octet.Reader, v uint64) {
	t.Helper()
	if x, e := r.U8(); x != uint8(v) || e != api.OK {
		t.Error(x, e)
	}
	if x, e := r.U16(); x != uint16(v) || e != api.OK {
		t.Error(x, e)
	}
	if x, e := r.U32(); x != uint32(v) || e != api.OK {
		t.Error(x, e)
	}
	if x, e := r.U64(); x != v || e != api.OK {
		t.Error(x, e)
	}
	if x, e := r.F64(); !same64(x, math.Float64frombits(v)) || e != api.OK {
		t.Error(x, e)
	}
	if x, e := r.F32(); !same32(x, math.Float32frombits(uint32(v))) || e != api.OK {
		t.Error(x, e)
	}
}
