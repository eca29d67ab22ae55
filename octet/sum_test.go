package octet_test

import (
	"bytes"
	"hash/crc32"
	"testing"

	"phasor/api"
	"phasor/octet"
)

// pattern is some bytes of which no two pieces are alike.
func pattern(size int) []byte {
	b := make([]byte, size)
	x := uint32(1)
	for i := range b {
		x = x*1664525 + 1013904223
		b[i] = byte(x >> 24)
	}
	return b
}

// P1.3: check sums, against known ones and against another reckoning of them.
func TestSum(t *testing.T) {
	rising := make([]byte, 32)
	for i := range rising {
		rising[i] = byte(i)
	}
	for _, x := range []struct {
		b    []byte
		want uint32
	}{
		{nil, 0},
		{[]byte("123456789"), 0xe3069283},
		{make([]byte, 32), 0x8a9136aa},
		{bytes.Repeat([]byte{255}, 32), 0x62a8ab43},
		{rising, 0x46dd794e},
	} {
		if got := octet.Sum(x.b); got != x.want {
			t.Errorf("%x: %x, not %x", x.b, got, x.want)
		}
	}
	table := crc32.MakeTable(crc32.Castagnoli)
	for size := range 300 {
		b := pattern(size)
		if got, want := octet.Sum(b), crc32.Checksum(b, table); got != want {
			t.Errorf("%d bytes: %x, not %x", size, got, want)
		}
	}
}

func TestSumOfParts(t *testing.T) {
	if octet.Sum() != 0 || octet.Sum(nil) != 0 || octet.Sum([]byte{}, nil, []byte{}) != 0 {
		t.Error("of nothing")
	}
	b := []byte("123456789")
	for i := range len(b) + 1 {
		for j := range i + 1 {
			if s := octet.Sum(nil, b[:j], []byte{}, b[j:i], nil, b[i:]); s != 0xe3069283 {
				t.Errorf("cut at %d and %d: %x", j, i, s)
			}
		}
	}
	if octet.Sum(b[4:], b[:4]) == 0xe3069283 {
		t.Error("the order of parts")
	}
}

func TestSeal(t *testing.T) {
	wantBytes(t, "Seal", octet.Seal([]byte("123456789")), "313233343536373839"+"839206e3")
	wantBytes(t, "Seal of nothing", octet.Seal(nil), "00000000")
	wantBytes(t, "Seal of no bytes", octet.Seal([]byte{}), "00000000")
}

func TestOpen(t *testing.T) {
	for size := range 4 {
		if b, e := octet.Open(make([]byte, size)); len(b) != 0 || e != api.ErrShort {
			t.Error(size, b, e)
		}
	}
	if b, e := octet.Open(nil); len(b) != 0 || e != api.ErrShort {
		t.Error(b, e)
	}
	if b, e := octet.Open(make([]byte, 4)); len(b) != 0 || e != api.OK {
		t.Error(b, e)
	}
	for _, s := range []string{"00000001", "01000000", "0000000000", "313233343536373839e3069283"} {
		if b, e := octet.Open(unhex(t, s)); len(b) != 0 || e != api.ErrSum {
			t.Error(s, b, e)
		}
	}
	if b, e := octet.Open(unhex(t, "313233343536373839839206e3")); string(b) != "123456789" || e != api.OK {
		t.Error(b, e)
	}
	sealed := octet.Seal(pattern(20))
	for size := 4; size < len(sealed); size++ {
		if _, e := octet.Open(sealed[:size]); e != api.ErrSum {
			t.Error("cut off", size, e)
		}
	}
}

func TestSealAndOpenGiveNewMemory(t *testing.T) {
	room := []byte("abcdefgh")
	sealed := octet.Seal(room[:3])
	if string(room) != "abcdefgh" {
		t.Error("Seal wrote behind what it was given")
	}
	kept := string(sealed)
	clear(room)
	if string(sealed) != kept {
		t.Error("Seal shares what it was given")
	}
	opened, _ := octet.Open(sealed)
	opened = append(opened, "zzzz"...)
	clear(opened)
	if string(sealed) != kept {
		t.Error("Open shares what it was given")
	}
}

// P1.5: Open of what Seal gives.
func TestSealThereAndBack(t *testing.T) {
	for size := range 100 {
		b := pattern(size)
		if got, e := octet.Open(octet.Seal(b)); !bytes.Equal(got, b) || e != api.OK {
			t.Error(size, got, e)
		}
	}
}

// turn turns so many neighbouring bits of b; of a byte the lowest bit comes first, or the highest.
func turn(b []byte, first, count int, highest bool) {
	for i := first; i < first+count; i++ {
		bit := i % 8
		if highest {
			bit = 7 - bit
		}
		b[i/8] ^= 1 << bit
	}
}

// P1.5: one to 32 neighbouring bits turned.
func TestTurnedBitsAreTold(t *testing.T) {
	for _, size := range []int{1, 4, 5, 40} {
		sealed := octet.Seal(pattern(size))
		for _, highest := range []bool{false, true} {
			for count := 1; count <= 32; count++ {
				for first := 0; first+count <= 8*len(sealed); first++ {
					turn(sealed, first, count, highest)
					if b, e := octet.Open(sealed); len(b) != 0 || e != api.ErrSum {
						t.Fatal(size, highest, count, first, b, e)
					}
					turn(sealed, first, count, highest)
				}
			}
		}
	}
}

func TestSomeOfNeighbouringBitsAreTold(t *testing.T) {
	sealed := octet.Seal(pattern(12))
	x := uint32(7)
	for range 20000 {
		x = x*1664525 + 1013904223
		first := int(x>>8) % (8*len(sealed) - 31)
		x = x*1664525 + 1013904223
		mask := x | 1
		other := bytes.Clone(sealed)
		for i := range 32 {
			turn(other, first+i, int(mask>>i&1), false)
		}
		if _, e := octet.Open(other); e != api.ErrSum {
			t.Fatalf("%d %x: %d", first, mask, e)
		}
	}
}
