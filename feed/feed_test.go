package feed_test

import (
	"encoding/binary"
	"fmt"
	"hash/crc32"
	"math"
	"slices"
	"strings"
	"testing"

	"davenport/api"
	"davenport/coll"
	"davenport/feed"
	"davenport/file"
	"davenport/sample"
	"davenport/value"
)

// token is the token of a number, written anew from the chapter.
func token(n uint64) string {
	if n == 0 {
		return ""
	}
	return fmt.Sprintf("%x.%08x", n, crc32.Checksum(binary.BigEndian.AppendUint64(nil, n), crc32.MakeTable(crc32.Castagnoli)))
}

// P21.1, P21.3
func TestTokenAndParse(t *testing.T) {
	numbers := []uint64{0, 1, 2, 9, 10, 15, 16, 17, 255, 256, 4095, 1 << 20, 1<<32 - 1, 1 << 32, 0x123456789a, 0xfedcba9876, api.MaxSeq - 1, api.MaxSeq}
	for n := range uint64(3000) {
		numbers = append(numbers, n)
	}
	for _, n := range numbers {
		want := token(n)
		if s, err := feed.Token(n); s != want || err != api.OK {
			t.Fatalf("Token(%d) = %q %d, want %q", n, s, err, want)
		}
		if got, err := feed.Parse(want); got != n || err != api.OK {
			t.Fatalf("Parse(%q) = %d %d", want, got, err)
		}
	}
	for _, n := range []uint64{api.MaxSeq + 1, 1 << 41, math.MaxUint64} {
		if s, err := feed.Token(n); s != "" || err != api.ErrArg {
			t.Errorf("Token(%d) = %q %d", n, s, err)
		}
		if got, err := feed.Parse(token(n)); got != 0 || err != api.ErrToken {
			t.Errorf("Parse of the token of %d = %d %d", n, got, err)
		}
	}
	seven := token(7)
	zero := fmt.Sprintf("0.%08x", crc32.Checksum(make([]byte, 8), crc32.MakeTable(crc32.Castagnoli)))
	for _, s := range []string{
		"1", "7.", ".", seven[1:], "0" + seven, " " + seven, seven + " ", seven + "0", seven[:len(seven)-1], strings.ToUpper(token(0xab)), strings.ToUpper(token(10)), zero, "0", zero[1:], "x", "7" + token(8)[1:], strings.Replace(seven, ".", ",", 1), strings.Replace(seven, ".", "..", 1), strings.Replace(seven, ".", "", 1), "-" + seven, "+" + seven, "é", "\xff", "\x00", strings.Repeat("f", 500), strings.Repeat("0", 500) + seven, "10000000000000007" + seven[1:],
	} {
		if n, err := feed.Parse(s); n != 0 || err != api.ErrToken {
			t.Errorf("Parse(%q) = %d %d", s, n, err)
		}
	}
	for i := range seven {
		for _, c := range "0123456789abcdefg." {
			s := seven[:i] + string(c) + seven[i+1:]
			if n, err := feed.Parse(s); s != seven && (n != 0 || err != api.ErrToken) {
				t.Errorf("Parse(%q) = %d %d", s, n, err)
			}
		}
	}
}

// state is a file with a collection.
type state struct {
	f api.File
	c api.Coll
}

func (s *state) put(t *testing.T, id string, rev api.Rev) api.Rev {
	t.Helper()
	f, c, r, err := coll.Put(s.f, s.c, id, rev, value.Int(1))
	if err != api.OK {
		t.Fatal(err)
	}
	s.f, s.c = f, c
	return r
}

func (s *state) drop(t *testing.T, id string, rev api.Rev) api.Rev {
	t.Helper()
	f, c, r, err := coll.Delete(s.f, s.c, id, rev)
	if err != api.OK {
		t.Fatal(err)
	}
	s.f, s.c = f, c
	return r
}

// example is the chapter's collection.
func example(t *testing.T) (*state, []api.Change) {
	s := &state{f: file.New()}
	a := s.put(t, "a", api.Rev{})
	b := s.put(t, "b", api.Rev{})
	a = s.drop(t, "a", a)
	return s, []api.Change{{Seq: 2, Id: "b", Rev: b}, {Seq: 3, Id: "a", Rev: a, Deleted: true}}
}

// P21.2
func TestSince(t *testing.T) {
	s, all := example(t)
	for _, x := range []struct {
		from       uint64
		most       int
		start, end int
	}{
		{0, 9, 0, 2}, {0, math.MaxInt, 0, 2}, {0, 2, 0, 2}, {0, 1, 0, 1}, {1, 9, 0, 2}, {1, 1, 0, 1}, {2, 9, 1, 2}, {2, 1, 1, 2}, {3, 9, 2, 2}, {3, 1, 2, 2},
	} {
		want := all[x.start:x.end]
		next := x.from
		if len(want) > 0 {
			next = want[len(want)-1].Seq
		}
		if l, tok, err := feed.Since(s.f, s.c, token(x.from), x.most); !slices.Equal(l, want) || tok != token(next) || err != api.OK {
			t.Errorf("Since(%d, %d) = %v %q %d", x.from, x.most, l, tok, err)
		}
	}
	if l, tok, err := feed.Since(file.New(), api.Coll{}, "", 1); len(l) != 0 || tok != "" || err != api.OK {
		t.Errorf("Since of the empty collection = %v %q %d", l, tok, err)
	}
	if l, tok, err := feed.Since(file.New(), api.Coll{Seq: api.MaxSeq}, token(api.MaxSeq), 1); len(l) != 0 || tok != token(api.MaxSeq) || err != api.OK {
		t.Errorf("Since the last token = %v %q %d", l, tok, err)
	}
}

// P21.2
func TestSinceErrors(t *testing.T) {
	s, _ := example(t)
	wrongFile, wrongColl := s.f, s.c
	wrongFile.Fuse, wrongColl.Seq = -2, 2
	for _, x := range []struct {
		f     api.File
		c     api.Coll
		token string
		most  int
		err   api.Errno
	}{
		{wrongFile, wrongColl, "x", 0, api.ErrFile}, {s.f, wrongColl, "x", 0, api.ErrColl}, {file.New(), s.c, "", 1, api.ErrColl},
		{s.f, s.c, "x", 0, api.ErrArg}, {s.f, s.c, "", 0, api.ErrArg}, {s.f, s.c, "", -1, api.ErrArg}, {s.f, s.c, "", math.MinInt, api.ErrArg},
		{s.f, s.c, "x", 1, api.ErrToken}, {s.f, s.c, token(4), 1, api.ErrToken}, {s.f, s.c, token(api.MaxSeq), 1, api.ErrToken}, {s.f, s.c, "0" + token(1), 1, api.ErrToken},
	} {
		if l, tok, err := feed.Since(x.f, x.c, x.token, x.most); len(l) != 0 || tok != "" || err != x.err {
			t.Errorf("Since(%q, %d) = %v %q %d, want %d", x.token, x.most, l, tok, err, x.err)
		}
	}
}

// P21.3: the feed is read in parts of all sizes while documents change.
func TestReadingOn(t *testing.T) {
	random := sample.New(21)
	for most := 1; most < 6; most++ {
		s := &state{f: file.New()}
		revs := map[string]api.Rev{}
		live := map[string]bool{}
		change := func() {
			id := sample.Name(random.Below(9))
			if live[id] && random.Below(3) == 0 {
				revs[id], live[id] = s.drop(t, id, revs[id]), false
			} else if live[id] {
				revs[id] = s.put(t, id, revs[id])
			} else {
				revs[id], live[id] = s.put(t, id, api.Rev{}), true
			}
		}
		for range 15 {
			change()
		}
		tok, seq := "", uint64(0)
		last := map[string]api.Change{}
		for step := 0; ; step++ {
			if step < 12 {
				change()
			}
			l, next, err := feed.Since(s.f, s.c, tok, most)
			if err != api.OK || len(l) > most || len(l) == 0 && next != tok {
				t.Fatalf("Since(%q) = %v %q %d", tok, l, next, err)
			}
			for _, x := range l {
				if x.Seq <= seq || last[x.Id].Seq >= x.Seq {
					t.Fatalf("the change %v is out of order", x)
				}
				last[x.Id], seq = x, x.Seq
			}
			if tok = next; step >= 12 && len(l) == 0 {
				break
			}
		}
		for id, rev := range revs {
			if x := last[id]; x.Rev != rev || x.Deleted == live[id] {
				t.Errorf("the last change of %s = %v, want %v", id, x, rev)
			}
		}
	}
}
