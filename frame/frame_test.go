package frame_test

import (
	"bytes"
	"encoding/binary"
	"hash/crc32"
	"math"
	"math/rand"
	"testing"

	"davenport/api"
	"davenport/file"
	"davenport/frame"
)

func flat(f api.File) []byte {
	return append(bytes.Clone(f.Firm), bytes.Join(f.Loose, nil)...)
}

func holding(b []byte) api.File {
	return api.File{Firm: b, Fuse: -1, Fault: -1}
}

func noise(n int) []byte {
	random := rand.New(rand.NewSource(int64(n)))
	b := make([]byte, n)
	random.Read(b)
	return b
}

// appended is what a record adds to a file, and its offset, written anew from the chapter.
func appended(before, payload []byte) ([]byte, int) {
	b := bytes.Clone(before)
	if n := len(b); n%64 != 0 && b[n-n%64] != 0 {
		for len(b)%64 != 0 {
			b = append(b, 0)
		}
	}
	code := binary.BigEndian.AppendUint16(nil, uint16(len(payload)))
	sum := crc32.Checksum(append(bytes.Clone(code), payload...), crc32.MakeTable(crc32.Castagnoli))
	code = append(binary.LittleEndian.AppendUint32(code, sum), payload...)
	at := 0
	for i, x := range code {
		if len(b)%64 == 0 {
			b = append(b, 0)
		}
		if i == 0 {
			at = len(b)
		}
		b = append(b, x)
	}
	return b[len(before):], at
}

var wrongFile = api.File{Fuse: -2, Fault: -1}

// P11.1: records of all sorts of lengths, at all places within a block, after data and after a header block.
func TestPutAndSize(t *testing.T) {
	for start := range 200 {
		for _, marker := range []byte{0, 1, 7} {
			before := make([]byte, start)
			if start > 0 {
				before[(start-1)/64*64] = marker
			}
			f := holding(before)
			for _, n := range []int{1, 2, 56, 57, 58, 119, 120, 121, 300} {
				payload := noise(n)
				want, wantAt := appended(before, payload)
				if size := frame.Size(f, n); size != len(want) {
					t.Fatalf("Size of %d bytes at %d = %d, want %d", n, start, size, len(want))
				}
				g, at, err := frame.Put(f, payload)
				if err != api.OK || at != wantAt || len(g.Loose) != 1 || !bytes.Equal(g.Loose[0], want) || !bytes.Equal(g.Firm, before) {
					t.Fatalf("Put of %d bytes at %d = offset %d, %d, want offset %d", n, start, at, err, wantAt)
				}
				if got, next, err := frame.Get(g, at); err != api.OK || next != len(flat(g)) || !bytes.Equal(got, payload) {
					t.Fatalf("Get of %d bytes at %d = %d bytes, %d, %d", n, at, len(got), next, err)
				}
			}
		}
	}
}

// P11.1
func TestPutErrors(t *testing.T) {
	f := holding(noise(10))
	for _, n := range []int{0, api.MaxRecord + 1, 1 << 16, 1<<16 + 5} {
		if g, at, err := frame.Put(f, make([]byte, n)); err != api.ErrArg || at != 0 || !file.Same(f, g) {
			t.Errorf("Put of %d bytes = %d %d", n, at, err)
		}
	}
	for _, n := range []int{0, -1, api.MaxRecord + 1, math.MaxInt, math.MinInt} {
		if size := frame.Size(f, n); size != 0 {
			t.Errorf("Size(%d) = %d", n, size)
		}
	}
	if g, at, err := frame.Put(wrongFile, nil); err != api.ErrFile || at != 0 || g.Fuse != -2 {
		t.Errorf("Put to a wrong file = %d %d", at, err)
	}
	if frame.Size(wrongFile, 5) != 0 {
		t.Error("Size of a wrong file")
	}
	most := noise(api.MaxRecord)
	want, _ := appended(f.Firm, most)
	g, at, err := frame.Put(f, most)
	if got, next, e := frame.Get(g, at); err != api.OK || e != api.OK || next != file.Len(g) || !bytes.Equal(got, most) || !bytes.Equal(g.Loose[0], want) || frame.Size(f, api.MaxRecord) != len(want) {
		t.Errorf("Put of the longest record = %d %d", err, e)
	}
	refused, _ := file.Refuse(f, 0)
	if g, at, err := frame.Put(refused, []byte("a")); err != api.ErrIo || at != 0 || g.Fault != -1 || file.Len(g) != 10 {
		t.Errorf("Put refused = %d %d", at, err)
	}
	dying, _ := file.Light(f, 0)
	if g, at, err := frame.Put(dying, []byte("a")); err != api.ErrOff || at != 0 || !g.Off {
		t.Errorf("Put without power = %d %d", at, err)
	}
	full := holding(make([]byte, api.MaxFile-7))
	if g, at, err := frame.Put(full, []byte("a")); err != api.OK || at != api.MaxFile-7 || file.Len(g) != api.MaxFile {
		t.Errorf("Put of what just fits = %d %d", at, err)
	}
	if g, at, err := frame.Put(full, []byte("ab")); err != api.ErrFull || at != 0 || !file.Same(g, full) {
		t.Errorf("Put of what does not fit = %d %d", at, err)
	}
	if n := frame.Size(full, 2); n != 9 {
		t.Errorf("Size of what does not fit = %d", n)
	}
}

// P11.2, P11.3: several records, headers between them; every other offset has none.
func TestGet(t *testing.T) {
	f, err := file.New(), api.OK
	header := append([]byte{1}, noise(63)...)
	want := map[int][]byte{}
	ends := map[int]int{}
	last := 0
	for i, n := range []int{60, 3, 1, 130, 64, 57, 500, 2, 2, 63} {
		if i%4 == 3 {
			if gap := -file.Len(f) & 63; gap > 0 {
				f, err = file.Append(f, make([]byte, gap))
			}
			f, err = file.Append(f, header)
		}
		at := 0
		f, at, err = frame.Put(f, noise(n))
		if err != api.OK || at <= last || at%64 == 0 {
			t.Fatalf("record %d at %d, %d", i, at, err)
		}
		want[at], ends[at], last = noise(n), file.Len(f), at
	}
	for _, g := range []api.File{f, holding(flat(f))} {
		for at := range file.Len(f) {
			b, next, err := frame.Get(g, at)
			if payload, ok := want[at]; ok {
				if err != api.OK || next != ends[at] || !bytes.Equal(b, payload) {
					t.Errorf("Get(%d) = %x %d %d", at, b, next, err)
				}
			} else if err != api.ErrFrame || len(b) != 0 || next != 0 {
				t.Errorf("Get(%d) = %x %d %d", at, b, next, err)
			}
		}
	}
	for _, at := range []int{-1, -64, math.MinInt, file.Len(f), file.Len(f) + 1, math.MaxInt} {
		if b, next, err := frame.Get(f, at); err != api.ErrFrame || len(b) != 0 || next != 0 {
			t.Errorf("Get(%d) = %x %d %d", at, b, next, err)
		}
	}
	if _, _, err := frame.Get(file.New(), 0); err != api.ErrFrame {
		t.Errorf("Get of an empty file = %d", err)
	}
	if b, next, err := frame.Get(wrongFile, 0); err != api.ErrFile || len(b) != 0 || next != 0 {
		t.Errorf("Get of a wrong file = %d", err)
	}
}

// P11.2: data bytes that look like a record, but are none.
func TestGetOfWhatIsNoRecord(t *testing.T) {
	seal := func(size int, payload []byte) []byte {
		code := binary.BigEndian.AppendUint16(nil, uint16(size))
		sum := crc32.Checksum(append(bytes.Clone(code), payload...), crc32.MakeTable(crc32.Castagnoli))
		return append(append([]byte{0}, binary.LittleEndian.AppendUint32(code, sum)...), payload...)
	}
	if b, next, err := frame.Get(holding(seal(2, []byte("ab"))), 1); string(b) != "ab" || next != 9 || err != api.OK {
		t.Errorf("Get of a record = %q %d %d", b, next, err)
	}
	for i, b := range [][]byte{seal(0, nil), seal(0, []byte("a")), seal(3, []byte("ab")), seal(1, []byte("ab")), make([]byte, 60), {0, 0}, {0, 0, 1}, {0, 0, 1, 0, 0, 0, 0}} {
		if got, next, err := frame.Get(holding(b), 1); err != api.ErrFrame || len(got) != 0 || next != 0 {
			t.Errorf("Get of wrong bytes %d = %q %d %d", i, got, next, err)
		}
	}
	// A record of one byte too many.
	long := seal(api.MaxRecord+1, make([]byte, api.MaxRecord+1))[1:]
	var b []byte
	for _, x := range long {
		if len(b)%64 == 0 {
			b = append(b, 0)
		}
		b = append(b, x)
	}
	if _, _, err := frame.Get(holding(b), 1); err != api.ErrFrame {
		t.Errorf("Get of a record that is too long = %d", err)
	}
	// A record inside a block that is not for data, and one that reaches into such a block.
	f, at, _ := frame.Put(file.New(), noise(100))
	for _, block := range []int{0, 64} {
		c := flat(f)
		c[block] = 1
		if _, _, err := frame.Get(holding(c), at); err != api.ErrFrame {
			t.Errorf("Get of a record within a marked block at %d = %d", block, err)
		}
	}
}

// P11.3
func TestMarkersAndCuts(t *testing.T) {
	random := rand.New(rand.NewSource(11))
	for range 40 {
		start := random.Intn(150)
		f := holding(make([]byte, start))
		payload := bytes.Repeat([]byte{1}, 1+random.Intn(300))
		g, at, _ := frame.Put(f, payload)
		b := flat(g)
		for i := (start + 63) / 64 * 64; i < len(b); i += 64 {
			if b[i] != 0 {
				t.Fatalf("a block at %d has marker %d", i, b[i])
			}
		}
		for n := at; n < len(b); n++ {
			if got, _, err := frame.Get(holding(b[:n]), at); err != api.ErrFrame {
				t.Fatalf("Get of %d of %d bytes = %x %d", n, len(b), got, err)
			}
		}
		later := append(bytes.Clone(b), noise(200)...)
		if got, next, err := frame.Get(holding(later), at); err != api.OK || next != len(b) || !bytes.Equal(got, payload) {
			t.Fatalf("Get with more behind it = %x %d %d", got, next, err)
		}
	}
}

// P11.3: inverted bits within 32 consecutive ones of a record's own bytes.
func TestChangedBits(t *testing.T) {
	random := rand.New(rand.NewSource(12))
	f, at, _ := frame.Put(file.New(), noise(50))
	b := flat(f)
	for start := 8 * (at + 6); start+32 <= 8*len(b); start++ {
		for range 5 {
			mask := random.Uint32() | 1
			changed := bytes.Clone(b)
			for i := range 32 {
				if mask>>i&1 == 1 {
					changed[(start+i)/8] ^= 1 << ((start + i) % 8)
				}
			}
			if _, _, err := frame.Get(holding(changed), at); err != api.ErrFrame {
				t.Fatalf("Get with the bits %x from %d on inverted = %d", mask, start, err)
			}
		}
	}
	for i := 8 * at; i < 8*len(b); i++ {
		changed := bytes.Clone(b)
		changed[i/8] ^= 1 << (i % 8)
		if _, _, err := frame.Get(holding(changed), at); err != api.ErrFrame {
			t.Fatalf("Get with bit %d inverted = %d", i, err)
		}
	}
}
