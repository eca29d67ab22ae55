package octet

import (
	"math"
	"unicode/utf8"

	"phasor/api"
)

// The one NaN as which every NaN is laid down: what bits a NaN has is no part of its value.
const (
	bitsNaN64 uint64 = 0x7FF8000000000001
	bitsNaN32 uint32 = 0x7FC00000
)

// Writer gathers bytes.
type Writer struct {
	B []byte
}

// U8 appends a number in one byte.
func (w *Writer) U8(v uint8) { w.number(uint64(v), 1) }

// U16 appends a number in two bytes.
func (w *Writer) U16(v uint16) { w.number(uint64(v), 2) }

// U32 appends a number in four bytes.
func (w *Writer) U32(v uint32) { w.number(uint64(v), 4) }

// U64 appends a number in eight bytes.
func (w *Writer) U64(v uint64) { w.number(v, 8) }

// F64 appends the bits of a float.
func (w *Writer) F64(v float64) {
	bits := math.Float64bits(v)
	if v != v {
		bits = bitsNaN64
	}
	w.U64(bits)
}

// F32 appends the bits of a short float.
func (w *Writer) F32(v float32) {
	bits := math.Float32bits(v)
	if v != v {
		bits = bitsNaN32
	}
	w.U32(bits)
}

// Text appends the length of a text and its bytes.
func (w *Writer) Text(s string) api.Errno {
	switch {
	case w == nil:
		return api.ErrNil
	case len(s) > api.MaxText:
		return api.ErrLong
	case !utf8.ValidString(s):
		return api.ErrText
	}
	w.U16(uint16(len(s)))
	w.B = append(w.B, s...)
	return api.OK
}

// number appends the lowest bytes of v, the lowest first.
func (w *Writer) number(v uint64, size int) {
	if w == nil {
		return
	}
	for range size {
		w.B = append(w.B, byte(v))
		v >>= 8
	}
}
