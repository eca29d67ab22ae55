package octet

import "phasor/api"

// castagnoli is the polynomial of CRC-32C, its bits turned round: the highest power is the lowest bit.
const castagnoli uint32 = 0x82F63B78

// sizeSum is how many bytes a check sum has.
const sizeSum = 4

// Sum is the CRC-32C of all parts, one behind the other.
func Sum(parts ...[]byte) uint32 {
	crc := ^uint32(0)
	for _, part := range parts {
		for _, b := range part {
			crc = sumByte(crc, b)
		}
	}
	return ^crc
}

// sumByte goes on with a check sum by one byte.
func sumByte(crc uint32, b byte) uint32 {
	crc ^= uint32(b)
	for range 8 {
		out := crc & 1
		crc >>= 1
		if out == 1 {
			crc ^= castagnoli
		}
	}
	return crc
}

// Seal lays the check sum behind bytes.
func Seal(b []byte) []byte {
	w := Writer{B: make([]byte, 0, len(b)+sizeSum)}
	w.B = append(w.B, b...)
	w.U32(Sum(b))
	return w.B
}

// Open answers the bytes ahead of their check sum.
func Open(b []byte) ([]byte, api.Errno) {
	if len(b) < sizeSum {
		return nil, api.ErrShort
	}
	end := len(b) - sizeSum
	data := append([]byte(nil), b[:end]...)
	want, _ := NewReader(b[end:]).U32()
	if Sum(data) != want {
		return nil, api.ErrSum
	}
	return data, api.OK
}
