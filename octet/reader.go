package octet

import (
	"math"
	"unicode/utf8"

	"phasor/api"
)

// Reader reads bytes from the left.
type Reader struct {
	rest []byte
	made bool // tells a reader of no bytes from one that NewReader did not make
}

// NewReader answers a reader at the beginning of b. It reads a copy, so that whoever owns b may change it.
func NewReader(b []byte) *Reader {
	return &Reader{rest: append([]byte(nil), b...), made: true}
}

// U8 reads a number of one byte.
func (r *Reader) U8() (uint8, api.Errno) {
	v, e := r.number(1)
	return uint8(v), e
}

// U16 reads a number of two bytes.
func (r *Reader) U16() (uint16, api.Errno) {
	v, e := r.number(2)
	return uint16(v), e
}

// U32 reads a number of four bytes.
func (r *Reader) U32() (uint32, api.Errno) {
	v, e := r.number(4)
	return uint32(v), e
}

// U64 reads a number of eight bytes.
func (r *Reader) U64() (uint64, api.Errno) {
	return r.number(8)
}

// F64 reads a float. Beside an error the bits are 0, and so is the float.
func (r *Reader) F64() (float64, api.Errno) {
	bits, e := r.U64()
	return math.Float64frombits(bits), e
}

// F32 reads a short float.
func (r *Reader) F32() (float32, api.Errno) {
	bits, e := r.U32()
	return math.Float32frombits(bits), e
}

// Text reads a length and a text of as many bytes.
func (r *Reader) Text() (string, api.Errno) {
	if r.nobodys() {
		return "", api.ErrNil
	}
	ahead := *r // goes on by itself, so that with an error nothing is taken from r
	size, e := ahead.U16()
	if e != api.OK {
		return "", e
	}
	if size > api.MaxText {
		return "", api.ErrLong
	}
	b, e := ahead.take(int(size))
	if e != api.OK {
		return "", e
	}
	if !utf8.Valid(b) {
		return "", api.ErrText
	}
	*r = ahead
	return string(b), api.OK
}

// Left tells how many bytes are left.
func (r *Reader) Left() int {
	if r.nobodys() {
		return 0
	}
	return len(r.rest)
}

// End tells whether all bytes were read.
func (r *Reader) End() api.Errno {
	switch {
	case r.nobodys():
		return api.ErrNil
	case len(r.rest) > 0:
		return api.ErrTail
	}
	return api.OK
}

// nobodys tells whether r is a reader that NewReader did not make.
func (r *Reader) nobodys() bool {
	return r == nil || !r.made
}

// number takes a number of so many bytes, the lowest first.
func (r *Reader) number(size int) (uint64, api.Errno) {
	b, e := r.take(size)
	var v uint64
	for i, x := range b {
		v |= uint64(x) << (8 * i)
	}
	return v, e
}

// take takes the next bytes, or, with an error, none.
func (r *Reader) take(size int) ([]byte, api.Errno) {
	if r.nobodys() {
		return nil, api.ErrNil
	}
	if len(r.rest) < size {
		return nil, api.ErrShort
	}
	b := r.rest[:size]
	r.rest = r.rest[size:]
	return b, api.OK
}
