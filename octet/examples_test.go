package octet_test

import (
	"math"
	"testing"

	"phasor/api"
	"phasor/octet"
)

// The chapter's examples, as they stand there.

func TestExampleOne(t *testing.T) {
	for _, x := range []struct {
		write func(w *octet.Writer)
		want  string
	}{
		{func(w *octet.Writer) { w.F64(math.Copysign(0, -1)) }, "0000000000000080"},
		{func(w *octet.Writer) { w.F64(1) }, "000000000000f03f"},
		{func(w *octet.Writer) { w.F32(0.5) }, "0000003f"},
		{func(w *octet.Writer) { w.F64(math.NaN()) }, "010000000000f87f"},
	} {
		w := octet.Writer{}
		x.write(&w)
		wantBytes(t, "example 1", w.B, x.want)
	}
}

func TestExampleTwo(t *testing.T) {
	w := octet.Writer{}
	if e := w.Text("é"); e != api.OK {
		t.Error(e)
	}
	if e := w.Text("\xff"); e != api.ErrText {
		t.Error(e)
	}
	wantBytes(t, "example 2", w.B, "0200c3a9")
	if _, e := octet.NewReader([]byte{0x01, 0x10}).Text(); e != api.ErrLong {
		t.Error(e)
	}
	r := octet.NewReader([]byte{0x02, 0x00, 0x61})
	if _, e := r.Text(); e != api.ErrShort || r.Left() != 3 {
		t.Error(e, r.Left())
	}
}

func TestExampleThree(t *testing.T) {
	if s := octet.Sum([]byte("1234"), []byte("56789")); s != 0xe3069283 {
		t.Errorf("%x", s)
	}
	if b, e := octet.Unhex("0F"); len(b) != 0 || e != api.ErrArg {
		t.Error(b, e)
	}
}
