package header_test

import (
	"bytes"
	"encoding/binary"
	"hash/crc32"
	"math"
	"math/rand"
	"testing"

	"davenport/api"
	"davenport/file"
	"davenport/frame"
	"davenport/header"
)

// block is the block of a header, written anew from the chapter.
func block(gen uint64, at uint32) [64]byte {
	b := binary.BigEndian.AppendUint64([]byte{1}, gen)
	b = append(binary.BigEndian.AppendUint32(b, at), make([]byte, 46)...)
	b = append(binary.LittleEndian.AppendUint32(b, crc32.Checksum(b, crc32.MakeTable(crc32.Castagnoli))), 165)
	return [64]byte(b)
}

var right = []api.Header{{Gen: 1}, {Gen: 1, At: 1}, {Gen: 2, At: 65}, {Gen: 0x0102030405060708, At: 0x010203}, {Gen: math.MaxUint64, At: api.MaxFile - 1}}

var wrong = []api.Header{{}, {At: 5}, {Gen: 1, At: -1}, {Gen: 1, At: api.MaxFile}, {Gen: 1, At: math.MinInt}, {Gen: 1, At: math.MaxInt}, {Gen: 1, At: 1 << 32}}

func holding(b []byte) api.File {
	return api.File{Firm: b, Fuse: -1, Fault: -1}
}

var wrongFile = api.File{Fuse: -2, Fault: -1}

// P12.1
func TestCheckBlockAndSays(t *testing.T) {
	for _, h := range right {
		want := block(h.Gen, uint32(h.At))
		if err := header.Check(h); err != api.OK {
			t.Errorf("Check(%v) = %d", h, err)
		}
		if b := header.Block(h); b != want {
			t.Errorf("Block(%v) = %x, want %x", h, b, want)
		}
		if got, ok := header.Says(want); got != h || !ok {
			t.Errorf("Says of the block of %v = %v %v", h, got, ok)
		}
	}
	for _, h := range wrong {
		if err := header.Check(h); err != api.ErrHeader {
			t.Errorf("Check(%v) = %d", h, err)
		}
		if b := header.Block(h); b != [64]byte{} {
			t.Errorf("Block(%v) = %x", h, b)
		}
	}
	for _, b := range [][64]byte{{}, block(0, 1), block(1, api.MaxFile), block(1, 0xFFFFFFFF), {63: 165}, {0: 1, 63: 165}} {
		if h, ok := header.Says(b); ok || h != (api.Header{}) {
			t.Errorf("Says(%x) = %v", b, h)
		}
	}
	// Bytes that are sealed, but no header's.
	for _, at := range []int{0, 13, 30, 58} {
		b := block(1, 1)
		b[at] ^= 2
		binary.LittleEndian.PutUint32(b[59:], crc32.Checksum(b[:59], crc32.MakeTable(crc32.Castagnoli)))
		if h, ok := header.Says(b); ok {
			t.Errorf("Says of a sealed block with byte %d changed = %v", at, h)
		}
	}
}

// P12.2
func TestPut(t *testing.T) {
	h := api.Header{Gen: 7, At: 3}
	want := header.Block(h)
	for start := range 130 {
		f := holding(bytes.Repeat([]byte{9}, start))
		g, err := header.Put(f, h)
		at := (start + 63) / 64 * 64
		if err != api.OK || len(g.Loose) != 1 || !bytes.Equal(g.Loose[0], append(make([]byte, at-start), want[:]...)) || len(g.Firm) != start {
			t.Fatalf("Put after %d bytes = %d", start, err)
		}
		if got, place, ok := header.Find(g); got != h || place != at || !ok {
			t.Fatalf("Find after %d bytes = %v %d %v", start, got, place, ok)
		}
	}
	for _, x := range wrong {
		f := holding([]byte("a"))
		if g, err := header.Put(f, x); err != api.ErrHeader || !file.Same(f, g) {
			t.Errorf("Put(%v) = %d", x, err)
		}
		if g, err := header.Put(wrongFile, x); err != api.ErrFile || g.Fuse != -2 {
			t.Errorf("Put(%v) to a wrong file = %d", x, err)
		}
	}
	refused, _ := file.Refuse(holding([]byte("a")), 0)
	if g, err := header.Put(refused, h); err != api.ErrIo || g.Fault != -1 || file.Len(g) != 1 {
		t.Errorf("Put refused = %d", err)
	}
	dying, _ := file.Light(file.New(), 0)
	if g, err := header.Put(dying, h); err != api.ErrOff || !g.Off {
		t.Errorf("Put without power = %d", err)
	}
	for _, x := range []struct {
		size int
		err  api.Errno
	}{{api.MaxFile - 64, api.OK}, {api.MaxFile - 65, api.OK}, {api.MaxFile - 63, api.ErrFull}, {api.MaxFile, api.ErrFull}} {
		if g, err := header.Put(holding(make([]byte, x.size)), h); err != x.err || x.err == api.OK && file.Len(g) != api.MaxFile {
			t.Errorf("Put after %d bytes = %d", x.size, err)
		}
	}
}

// P12.3
func TestFind(t *testing.T) {
	a, b := block(5, 1), block(3, 2)
	data := make([]byte, 64)
	for _, x := range []struct {
		parts [][]byte
		want  api.Header
		at    int
		ok    bool
	}{
		{nil, api.Header{}, 0, false}, {[][]byte{data}, api.Header{}, 0, false}, {[][]byte{a[:63]}, api.Header{}, 0, false}, {[][]byte{{0}, a[:]}, api.Header{}, 0, false},
		{[][]byte{a[:]}, api.Header{Gen: 5, At: 1}, 0, true}, {[][]byte{a[:], b[:]}, api.Header{Gen: 3, At: 2}, 64, true}, {[][]byte{b[:], a[:]}, api.Header{Gen: 5, At: 1}, 64, true},
		{[][]byte{data, a[:], data, data}, api.Header{Gen: 5, At: 1}, 64, true}, {[][]byte{data, a[:], b[:63]}, api.Header{Gen: 5, At: 1}, 64, true}, {[][]byte{a[:], data, {1, 2, 3}}, api.Header{Gen: 5, At: 1}, 0, true}, {[][]byte{a[:], data[:32], b[:]}, api.Header{Gen: 5, At: 1}, 0, true},
	} {
		whole := bytes.Join(x.parts, nil)
		loose := file.New()
		for i := range whole {
			loose.Loose = append(loose.Loose, whole[i:i+1])
		}
		dark := holding(whole)
		dark.Off = true
		for _, f := range []api.File{holding(whole), loose, dark} {
			if h, at, ok := header.Find(f); h != x.want || at != x.at || ok != x.ok {
				t.Errorf("Find in %d parts = %v %d %v, want %v %d", len(x.parts), h, at, ok, x.want, x.at)
			}
		}
	}
	broken := holding(a[:])
	broken.Fuse = -5
	if h, at, ok := header.Find(broken); ok || at != 0 || h != (api.Header{}) {
		t.Errorf("Find in a wrong file = %v %d", h, at)
	}
}

// P12.4: what records hold, and what of them survives, is never a header; a torn header is none.
func TestRecordsAndPowerLosses(t *testing.T) {
	f, err := header.Put(file.New(), api.Header{Gen: 1, At: 1})
	f, err = file.Sync(f)
	fake := block(9, 9)
	for n := range 70 {
		f, _, err = frame.Put(f, append(make([]byte, n), bytes.Repeat(fake[:], 3)...))
		if h, at, ok := header.Find(f); h.Gen != 1 || at != 0 || !ok || err != api.OK {
			t.Fatalf("Find after record %d = %v %d %v", n, h, at, ok)
		}
	}
	next, _ := header.Put(f, api.Header{Gen: 2, At: 65})
	pieces := len(next.Loose)
	size := len(next.Loose[pieces-1])
	for cut := range size + 1 {
		g, _ := file.Crash(next, nil, pieces-1, cut)
		h, _, ok := header.Find(g)
		if want := cut == size; !ok || (h.Gen == 2) != want || h.Gen != 1 && !want {
			t.Errorf("Find after %d of %d bytes survived = %v %v", cut, size, h, ok)
		}
		longer, _, _ := frame.Put(g, bytes.Repeat([]byte{165}, 100))
		if h, _, _ := header.Find(longer); h.Gen != 1 && cut < size {
			t.Errorf("Find after %d bytes survived and a record was put = %v", cut, h)
		}
	}
}

// P12.4
func TestInvertedBits(t *testing.T) {
	random := rand.New(rand.NewSource(12))
	b := header.Block(api.Header{Gen: 77, At: 4711})
	for start := range 512 {
		for range 30 {
			mask := random.Uint32() | 1
			changed := b
			for i := range 32 {
				if mask>>i&1 == 1 && start+i < 512 {
					changed[(start+i)/8] ^= 1 << ((start + i) % 8)
				}
			}
			if h, ok := header.Says(changed); ok || h != (api.Header{}) {
				t.Fatalf("Says with the bits %x from %d on inverted = %v", mask, start, h)
			}
		}
	}
}
