package utf_test

import (
	"bytes"
	"math"
	"slices"
	"strings"
	"testing"
	"unicode/utf8"

	"davenport/api"
	"davenport/utf"
)

// edges are numbers at and next to the limits of the forms.
var edges = []int{0, 1, 0x41, 0x7E, 0x7F, 0x80, 0x81, 0x7FE, 0x7FF, 0x800, 0x801, 0xD7FF, 0xE000, 0xFFFD, 0xFFFF, 0x10000, 0x10001, 0x10FFFE, 0x10FFFF}

var wrong = []int{-1, -0x41, math.MinInt, 0xD800, 0xD801, 0xDBFF, 0xDC00, 0xDFFF, 0x110000, 0x1FFFFF, 1 << 32, 1<<32 + 65, math.MaxInt}

// P1.1: every number up to beyond the last code point, against the library.
func TestSizeAndPutOfAllNumbers(t *testing.T) {
	for cp := -2; cp < 0x110010; cp++ {
		var want []byte
		if cp >= 0 && utf8.ValidRune(rune(cp)) {
			want = utf8.AppendRune(nil, rune(cp))
		}
		if n := utf.Size(cp); n != len(want) {
			t.Fatalf("Size(%x) = %d, want %d", cp, n, len(want))
		}
		b, err := utf.Put(nil, cp)
		if (err == api.OK) != (want != nil) || !bytes.Equal(b, want) {
			t.Fatalf("Put(nil, %x) = %x %d", cp, b, err)
		}
	}
}

// P1.1
func TestPutFollowsItsDestination(t *testing.T) {
	for _, cp := range edges {
		room := append(make([]byte, 0, 16), "ab\xff"...)
		spare := room[:16]
		b, err := utf.Put(room, cp)
		if err != api.OK || string(b) != "ab\xff"+string(rune(cp)) {
			t.Errorf("Put(ab, %x) = %x %d", cp, b, err)
		}
		if !bytes.Equal(spare[3:], make([]byte, 13)) {
			t.Errorf("Put(ab, %x) wrote into its argument's spare memory", cp)
		}
	}
	for _, cp := range wrong {
		if b, err := utf.Put([]byte("ab"), cp); err != api.ErrUtf || len(b) != 0 {
			t.Errorf("Put(ab, %x) = %x %d", cp, b, err)
		}
		if n := utf.Size(cp); n != 0 {
			t.Errorf("Size(%x) = %d", cp, n)
		}
	}
}

// P1.1
func TestText(t *testing.T) {
	want := ""
	for _, cp := range edges {
		want += string(rune(cp))
	}
	if s, err := utf.Text(edges); s != want || err != api.OK {
		t.Errorf("Text(edges) = %x %d", s, err)
	}
	if s, err := utf.Text(nil); s != "" || err != api.OK {
		t.Errorf("Text(nil) = %q %d", s, err)
	}
	for _, cp := range wrong {
		for _, l := range [][]int{{cp}, {65, cp}, {cp, 65}, {65, cp, 66}} {
			if s, err := utf.Text(l); s != "" || err != api.ErrUtf {
				t.Errorf("Text(%x) = %x %d", l, s, err)
			}
		}
	}
}

// P1.2
func TestNextArguments(t *testing.T) {
	b := []byte("a\u00e9\u20ac\U0001F600")
	for _, at := range []int{-1, math.MinInt, len(b) + 1, math.MaxInt} {
		if cp, next, err := utf.Next(b, at); cp != 0 || next != 0 || err != api.ErrArg {
			t.Errorf("Next(%d) = %d %d %d", at, cp, next, err)
		}
	}
	if cp, next, err := utf.Next(b, len(b)); cp != 0 || next != 0 || err != api.ErrShort {
		t.Errorf("Next at the end = %d %d %d", cp, next, err)
	}
	if _, _, err := utf.Next(nil, 0); err != api.ErrShort {
		t.Errorf("Next(nil, 0) = %d", err)
	}
	if _, _, err := utf.Next(nil, 1); err != api.ErrArg {
		t.Errorf("Next(nil, 1) = %d", err)
	}
}

func checkNext(t *testing.T, b []byte, at int) {
	t.Helper()
	r, size := utf8.DecodeRune(b[at:])
	cp, next, err := utf.Next(b, at)
	if r == utf8.RuneError && size <= 1 {
		if cp != 0 || next != 0 || err != api.ErrUtf {
			t.Fatalf("Next(%x, %d) = %x %d %d, want ErrUtf", b, at, cp, next, err)
		}
	} else if cp != int(r) || next != at+size || err != api.OK {
		t.Fatalf("Next(%x, %d) = %x %d %d, want %x %d", b, at, cp, next, err, r, at+size)
	}
}

// P1.2: all one- and two-byte sequences, and longer ones whose bytes are at the limits.
func TestNextAgainstTheLibrary(t *testing.T) {
	for x := range 256 {
		checkNext(t, []byte{byte(x)}, 0)
		for y := range 256 {
			checkNext(t, []byte{byte(x), byte(y)}, 0)
			checkNext(t, []byte{0x82, byte(x), byte(y)}, 1)
		}
	}
	limits := []byte{0, 0x41, 0x7F, 0x80, 0x81, 0x8F, 0x90, 0x9F, 0xA0, 0xBF, 0xC0, 0xFF}
	for x := 0x80; x < 256; x++ {
		for _, y := range limits {
			for _, z := range limits {
				checkNext(t, []byte{byte(x), y, z}, 0)
				for _, w := range limits {
					checkNext(t, []byte{byte(x), y, z, w}, 0)
					checkNext(t, []byte{'a', byte(x), y, z, w, 'b'}, 1)
				}
			}
		}
	}
}

func firstError(s string) (int, bool) {
	for at := 0; at < len(s); {
		r, size := utf8.DecodeRuneInString(s[at:])
		if r == utf8.RuneError && size <= 1 {
			return at, true
		}
		at += size
	}
	return 0, false
}

// P1.3: texts put together from valid and broken pieces.
func TestCheckAndPoints(t *testing.T) {
	pieces := []string{"a", "\x00", "\u00e9", "\u20ac", "\U0001F600", "\U0010FFFF", "\xe2\x82", "\x82", "\xc1\x81", "\xed\xa0\x80", "\xf4\x90\x80\x80", "\xff", "\xf0\x9f\x98", ""}
	for _, a := range pieces {
		for _, b := range pieces {
			for _, c := range pieces {
				s := a + b + c
				wantAt, broken := firstError(s)
				want := api.OK
				if broken {
					want = api.ErrUtf
				}
				if at, err := utf.Check(s); at != wantAt || err != want {
					t.Fatalf("Check(%x) = %d %d", s, at, err)
				}
				var points []int
				if !broken {
					for _, r := range s {
						points = append(points, int(r))
					}
				}
				if l, at, err := utf.Points(s); !slices.Equal(l, points) || at != wantAt || err != want {
					t.Fatalf("Points(%x) = %x %d %d", s, l, at, err)
				}
			}
		}
	}
}

// P1.4
func TestNextReadsWhatPutWrote(t *testing.T) {
	var b []byte
	var offsets []int
	for _, cp := range edges {
		offsets = append(offsets, len(b))
		b, _ = utf.Put(b, cp)
	}
	for i, at := range offsets {
		cp, next, err := utf.Next(b, at)
		if cp != edges[i] || err != api.OK {
			t.Fatalf("Next at %d = %x %d", at, cp, err)
		}
		if again, _ := utf.Put(nil, cp); !bytes.Equal(again, b[at:next]) {
			t.Errorf("the bytes of %x are %x, but it encodes as %x", cp, b[at:next], again)
		}
	}
}

// P1.4
func TestOrderAndConcatenation(t *testing.T) {
	var texts [][]int
	for _, x := range edges {
		texts = append(texts, []int{x}, []int{0x800, x})
		for _, y := range edges {
			texts = append(texts, []int{x, y})
		}
	}
	for _, x := range texts {
		for _, y := range texts {
			a, _ := utf.Text(x)
			b, _ := utf.Text(y)
			if strings.Compare(a, b) != slices.Compare(x, y) {
				t.Fatalf("%x and %x are not ordered as their texts", x, y)
			}
			if l, _, err := utf.Points(a + b); err != api.OK || !slices.Equal(l, slices.Concat(x, y)) {
				t.Fatalf("Points of %x and %x joined = %x %d", x, y, l, err)
			}
		}
	}
}
