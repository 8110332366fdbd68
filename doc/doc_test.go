package doc_test

import (
	"bytes"
	"encoding/binary"
	"fmt"
	"hash/crc32"
	"math"
	"math/rand"
	"strings"
	"testing"

	"davenport/api"
	"davenport/doc"
)

// P19.1
func TestCheck(t *testing.T) {
	for _, id := range []string{"a", "z", "0", "9", "-", "a-1", "--", "by-year", strings.Repeat("a", api.MaxId)} {
		if err := doc.Check(id); err != api.OK {
			t.Errorf("Check(%q) = %d", id, err)
		}
	}
	for _, id := range []string{"", "A", "Z", strings.Repeat("a", api.MaxId+1), "a b", "é", "a\x00", "\xff"} {
		if err := doc.Check(id); err != api.ErrId {
			t.Errorf("Check(%q) = %d", id, err)
		}
	}
	for c := range 256 {
		want := api.ErrId
		if strings.ContainsRune("abcdefghijklmnopqrstuvwxyz0123456789-", rune(c)) {
			want = api.OK
		}
		for _, id := range []string{string([]byte{byte(c)}), "a" + string([]byte{byte(c)}), string([]byte{byte(c)}) + "a"} {
			if err := doc.Check(id); err != want {
				t.Errorf("Check(%q) = %d", id, err)
			}
		}
	}
}

// P19.2, P19.5
func TestNext(t *testing.T) {
	table := crc32.MakeTable(crc32.Castagnoli)
	for _, old := range []api.Rev{{}, {Gen: 1}, {Gen: 1, Mark: 0x12345678}, {Gen: 7, Mark: math.MaxUint32}, {Gen: math.MaxUint32 - 1, Mark: 5}} {
		for _, body := range []string{"", "{}", `{"v":1}`, "\x00", strings.Repeat("x", 3000)} {
			want := api.Rev{Gen: old.Gen + 1, Mark: crc32.Checksum(append(binary.LittleEndian.AppendUint32(nil, old.Mark), body...), table)}
			if r, err := doc.Next(old, []byte(body)); r != want || err != api.OK || r == old {
				t.Errorf("Next(%v, %.9q) = %v %d, want %v", old, body, r, err, want)
			}
		}
	}
	for _, x := range []struct {
		old api.Rev
		err api.Errno
	}{{api.Rev{Mark: 1}, api.ErrRev}, {api.Rev{Mark: math.MaxUint32}, api.ErrRev}, {api.Rev{Gen: math.MaxUint32}, api.ErrOver}, {api.Rev{Gen: math.MaxUint32, Mark: 9}, api.ErrOver}} {
		if r, err := doc.Next(x.old, []byte("a")); r != (api.Rev{}) || err != x.err {
			t.Errorf("Next(%v) = %v %d", x.old, r, err)
		}
	}
	body := []byte("a body of some length, whose bytes differ")
	random := rand.New(rand.NewSource(19))
	first, _ := doc.Next(api.Rev{Gen: 3, Mark: 4}, body)
	for at := range len(body) - 3 {
		other := bytes.Clone(body)
		binary.LittleEndian.PutUint32(other[at:], binary.LittleEndian.Uint32(body[at:])^(random.Uint32()|1))
		if r, _ := doc.Next(api.Rev{Gen: 3, Mark: 4}, other); r == first {
			t.Errorf("bodies that differ in four bytes at %d have the same successor", at)
		}
	}
}

// P19.3, P19.5
func TestRevTextAndParseRev(t *testing.T) {
	revs := []api.Rev{{Gen: 1}, {Gen: 3, Mark: 171}, {Gen: 9, Mark: 0x90abcdef}, {Gen: 10, Mark: math.MaxUint32}, {Gen: 100, Mark: 1}, {Gen: 1234567890, Mark: 0x10000000}, {Gen: math.MaxUint32, Mark: 0xfedcba98}}
	random := rand.New(rand.NewSource(20))
	for range 300 {
		revs = append(revs, api.Rev{Gen: random.Uint32()>>random.Intn(32) | 1, Mark: random.Uint32()})
	}
	for _, r := range revs {
		want := fmt.Sprintf("%d-%08x", r.Gen, r.Mark)
		if s, err := doc.RevText(r); s != want || err != api.OK {
			t.Errorf("RevText(%v) = %q %d", r, s, err)
		}
		if got, err := doc.ParseRev(want); got != r || err != api.OK {
			t.Errorf("ParseRev(%q) = %v %d", want, got, err)
		}
	}
	if s, err := doc.RevText(api.Rev{}); s != "" || err != api.OK {
		t.Errorf("RevText of the zero Rev = %q %d", s, err)
	}
	if r, err := doc.ParseRev(""); r != (api.Rev{}) || err != api.OK {
		t.Errorf("ParseRev of nothing = %v %d", r, err)
	}
	for _, mark := range []uint32{1, 171, math.MaxUint32} {
		if s, err := doc.RevText(api.Rev{Mark: mark}); s != "" || err != api.ErrRev {
			t.Errorf("RevText of Gen 0 = %q %d", s, err)
		}
	}
	for _, s := range []string{
		"03-000000ab", "3-ab", "0-00000000", "0-00000001", "3", "3-", "-", "-000000ab", "3-000000a", "3-000000abc", "3-000000AB", "3-000000aB", "3-000000ag", "3000000ab", "3--00000ab", "3_000000ab", " 3-000000ab", "3-000000ab ", "+3-000000ab", "-3-000000ab", "a-000000ab", "3-0000-0ab", "3a-000000ab",
		"4294967296-00000000", "4294967297-00000000", "42949672960-00000000", "18446744073709551617-00000000", strings.Repeat("9", 400) + "-00000000", "3-" + strings.Repeat("0", 400), "3-1000000ab", "\xff", "3-000000é", "３-000000ab", "3-000000ab\x00", "00-00000000", "none",
	} {
		if r, err := doc.ParseRev(s); r != (api.Rev{}) || err != api.ErrRev {
			t.Errorf("ParseRev(%q) = %v %d", s, r, err)
		}
	}
}

// laid is the encoding of an Info, valid or not, written anew from the chapter.
func laid(i api.Info) []byte {
	b := binary.BigEndian.AppendUint32(nil, i.Rev.Gen)
	b = binary.BigEndian.AppendUint64(binary.BigEndian.AppendUint32(b, i.Rev.Mark), i.Seq)
	if i.Deleted {
		b = append(b, 1)
	} else {
		b = append(b, 0)
	}
	return binary.BigEndian.AppendUint32(b, uint32(i.At))
}

// P19.4
func TestEncodeAndDecode(t *testing.T) {
	one := api.Rev{Gen: 1, Mark: 2}
	for _, i := range []api.Info{{Rev: one, Seq: 3, At: 4}, {Rev: api.Rev{Gen: 1}, Seq: 1, At: 1}, {Rev: api.Rev{Gen: math.MaxUint32, Mark: math.MaxUint32}, Seq: api.MaxSeq, At: api.MaxFile - 1}, {Rev: one, Seq: 9, Deleted: true}, {Rev: api.Rev{Gen: 0x01020304, Mark: 0x05060708}, Seq: 0x0102030405, At: 0x010203}} {
		want := laid(i)
		b, err := doc.Encode(i)
		if err != api.OK || !bytes.Equal(b, want) || len(b) != 21 {
			t.Errorf("Encode(%v) = %x %d", i, b, err)
		}
		if got, err := doc.Decode(want); got != i || err != api.OK {
			t.Errorf("Decode(%x) = %v %d", want, got, err)
		}
		for n := range 21 {
			if got, err := doc.Decode(want[:n]); got != (api.Info{}) || err != api.ErrShort {
				t.Errorf("Decode of %d bytes = %v %d", n, got, err)
			}
		}
		if got, err := doc.Decode(append(want, 0)); got != (api.Info{}) || err != api.ErrDoc {
			t.Errorf("Decode of 22 bytes = %v %d", got, err)
		}
		for _, flag := range []byte{2, 3, 255} {
			changed := bytes.Clone(want)
			changed[16] = flag
			if got, err := doc.Decode(changed); got != (api.Info{}) || err != api.ErrDoc {
				t.Errorf("Decode with the flag %d = %v %d", flag, got, err)
			}
		}
	}
	for _, i := range []api.Info{
		{}, {Seq: 3, At: 4}, {Rev: api.Rev{Mark: 1}, Seq: 3, At: 4}, {Rev: one, At: 4}, {Rev: one, Seq: api.MaxSeq + 1, At: 4}, {Rev: one, Seq: math.MaxUint64, At: 4},
		{Rev: one, Seq: 3}, {Rev: one, Seq: 3, At: -1}, {Rev: one, Seq: 3, At: api.MaxFile}, {Rev: one, Seq: 3, Deleted: true, At: 4}, {Rev: one, Seq: 3, Deleted: true, At: -1}, {Rev: one, Deleted: true}, {Rev: one, Seq: 3, At: 1<<32 + 4}, {Rev: one, Seq: 3, At: math.MinInt},
	} {
		if b, err := doc.Encode(i); len(b) != 0 || err != api.ErrDoc {
			t.Errorf("Encode(%v) = %x %d", i, b, err)
		}
		if got, err := doc.Decode(laid(i)); i.At < 1<<32 && (got != (api.Info{}) || err != api.ErrDoc) {
			t.Errorf("Decode of %v = %v %d", i, got, err)
		}
	}
	if _, err := doc.Decode(nil); err != api.ErrShort {
		t.Errorf("Decode(nil) = %d", err)
	}
}
