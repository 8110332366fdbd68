package crc_test

import (
	"bytes"
	"encoding/binary"
	"hash/crc32"
	"math"
	"math/rand"
	"testing"

	"davenport/crc"
)

var table = crc32.MakeTable(crc32.Castagnoli)

func noise(n int) []byte {
	random := rand.New(rand.NewSource(int64(n)))
	b := make([]byte, n)
	random.Read(b)
	return b
}

// P9.1
func TestSumAndMore(t *testing.T) {
	if s := crc.Sum([]byte("123456789")); s != 0xE3069283 {
		t.Errorf("Sum(123456789) = %x", s)
	}
	if s := crc.Sum(nil); s != 0 {
		t.Errorf("Sum(nil) = %x", s)
	}
	for x := range 256 {
		if s := crc.Sum([]byte{byte(x)}); s != crc32.Checksum([]byte{byte(x)}, table) {
			t.Errorf("Sum(%x) = %x", x, s)
		}
	}
	for _, n := range []int{2, 3, 4, 5, 63, 64, 1000} {
		b := noise(n)
		if s := crc.Sum(b); s != crc32.Checksum(b, table) {
			t.Errorf("Sum of %d bytes = %x", n, s)
		}
		for _, start := range []uint32{0, 1, 0x80000000, 0xFFFFFFFF, 0x12345678} {
			if s := crc.More(start, b); s != crc32.Update(start, table, b) {
				t.Errorf("More(%x) of %d bytes = %x", start, n, s)
			}
			if s := crc.More(start, nil); s != start {
				t.Errorf("More(%x, nil) = %x", start, s)
			}
		}
	}
}

// P9.2
func TestLayAndHolds(t *testing.T) {
	for _, n := range []int{0, 1, 3, 4, 5, 64, 100} {
		b := noise(n)
		room := append(make([]byte, 0, n+8), b...)
		got := crc.Lay(room)
		want := binary.LittleEndian.AppendUint32(bytes.Clone(b), crc32.Checksum(b, table))
		if !bytes.Equal(got, want) || !crc.Holds(got) {
			t.Errorf("Lay of %d bytes = %x, Holds %v", n, got, crc.Holds(got))
		}
		if !bytes.Equal(room[:n+8][n:], make([]byte, 8)) {
			t.Error("Lay wrote into its argument's spare memory")
		}
		if crc.Holds(append(bytes.Clone(got), 0)) || n > 0 && crc.Holds(got[1:]) || crc.Holds(got[:len(got)-1]) {
			t.Errorf("Holds of more or less than %d sealed bytes", len(got))
		}
	}
	for _, x := range []struct {
		b    []byte
		want bool
	}{
		{nil, false}, {[]byte{0}, false}, {make([]byte, 3), false}, {make([]byte, 4), true}, {make([]byte, 5), false}, {[]byte{0, 0, 0, 1}, false}, {[]byte{1, 0, 0, 0}, false},
	} {
		if crc.Holds(x.b) != x.want {
			t.Errorf("Holds(%x) = %v", x.b, !x.want)
		}
	}
}

// P9.3
func TestBoth(t *testing.T) {
	zeros := make([]byte, 5000)
	for _, s := range []uint32{0, 1, 7, 0x80000000, 0xFFFFFFFF, 0xE3069283} {
		for _, n := range []int{0, 1, 2, 3, 5, 31, 32, 100, 4095, 4096, 5000} {
			// Consuming zero bits is linear, so it is the difference of two checksums over zero bytes.
			want := 9 ^ crc32.Update(s, table, zeros[:n]) ^ crc32.Update(0, table, zeros[:n])
			if got := crc.Both(s, 9, n); got != want {
				t.Errorf("Both(%x, 9, %d) = %x, want %x", s, n, got, want)
			}
		}
		for _, n := range []int{-1, -8, math.MinInt} {
			if got := crc.Both(s, 9, n); got != 0 {
				t.Errorf("Both(%x, 9, %d) = %x", s, n, got)
			}
		}
	}
	half := crc.Both(0x12345678, 0, 1<<61)
	if got, want := crc.Both(0x12345678, 0, 1<<62), crc.Both(half, 0, 1<<61); got != want {
		t.Errorf("Both of 2^62 bytes = %x, want %x", got, want)
	}
	if got, want := crc.Both(5, 0, math.MaxInt), crc.Both(crc.Both(5, 0, math.MaxInt-1), 0, 1); got != want {
		t.Errorf("Both of the most bytes = %x, want %x", got, want)
	}
}

// P9.4
func TestParts(t *testing.T) {
	b := noise(200)
	for i := 0; i <= len(b); i += 7 {
		if crc.More(crc.Sum(b[:i]), b[i:]) != crc.Sum(b) || crc.Both(crc.Sum(b[:i]), crc.Sum(b[i:]), len(b)-i) != crc.Sum(b) {
			t.Errorf("the checksum in parts of %d and %d bytes", i, len(b)-i)
		}
	}
}

// P9.4
func TestChangedBits(t *testing.T) {
	random := rand.New(rand.NewSource(9))
	sealed := crc.Lay(noise(40))
	for start := range 8*len(sealed) - 31 {
		for range 20 {
			mask := random.Uint32() | 1
			changed := bytes.Clone(sealed)
			for i := range 32 {
				if mask>>i&1 == 1 {
					changed[(start+i)/8] ^= 1 << ((start + i) % 8)
				}
			}
			if crc.Holds(changed) {
				t.Fatalf("the bits %x from %d on are inverted, and it still holds", mask, start)
			}
			if at := start / 8; start%8 == 0 && at+4 <= len(sealed)-4 && crc.Sum(changed[:len(sealed)-4]) == crc.Sum(sealed[:len(sealed)-4]) {
				t.Fatalf("four bytes at %d differ, and the checksum is the same", at)
			}
		}
	}
}
