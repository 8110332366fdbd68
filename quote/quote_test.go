package quote_test

import (
	"encoding/json"
	"math"
	"strconv"
	"strings"
	"testing"
	"unicode/utf8"

	"davenport/api"
	"davenport/quote"
)

// canonical is the canonical literal of a valid text, written anew.
func canonical(s string) string {
	out := `"`
	for _, r := range s {
		switch {
		case r == '"' || r == '\\':
			out += `\` + string(r)
		case strings.ContainsRune("\b\t\n\f\r", r):
			out += map[rune]string{'\b': `\b`, '\t': `\t`, '\n': `\n`, '\f': `\f`, '\r': `\r`}[r]
		case r < 32:
			out += `\u00` + string("01"[r>>4]) + strconv.FormatInt(int64(r&15), 16)
		default:
			out += string(r)
		}
	}
	return out + `"`
}

// P2.1: the escapes, raw characters, and what follows them.
func TestSignOfCharacters(t *testing.T) {
	for _, x := range []struct {
		text string
		cp   int
	}{
		{`\"`, 34}, {`\\`, 92}, {`\/`, 47}, {`\b`, 8}, {`\f`, 12}, {`\n`, 10}, {`\r`, 13}, {`\t`, 9},
		{"a", 97}, {" ", 32}, {"/", 47}, {"\x7f", 127}, {"!", 33}, {"#", 35}, {"[", 91}, {"]", 93},
		{"\u0080", 128}, {"\u00e9", 233}, {"\u20ac", 0x20AC}, {"\ufffd", 0xFFFD}, {"\U0001F600", 0x1F600}, {"\U0010FFFF", 0x10FFFF},
		{`\u0000`, 0}, {`\u00e9`, 233}, {`\u00E9`, 233}, {`\uaBcD`, 0xABCD}, {`\uABCD`, 0xABCD}, {`\uFfFf`, 0xFFFF}, {`\u9999`, 0x9999}, {`\uD7ff`, 0xD7FF}, {`\ue000`, 0xE000}, {`\uffff`, 0xFFFF}, {`\u0022`, 34},
		{`\ud800\udc00`, 0x10000}, {`\ud83d\ude00`, 0x1F600}, {`\uDBFF\uDFFF`, 0x10FFFF}, {`\ud800\udfff`, 0x103FF}, {`\udbff\udc00`, 0x10FC00},
	} {
		for _, tail := range []string{"", "0", `"`, `\`, "\xff", `\u0041`} {
			b := []byte("x" + x.text + tail)
			if cp, next, err := quote.Sign(b, 1); cp != x.cp || next != 1+len(x.text) || err != api.OK {
				t.Errorf("Sign(%q, 1) = %x %d %d, want %x", b, cp, next, err, x.cp)
			}
		}
	}
}

// P2.1
func TestSignErrors(t *testing.T) {
	for _, x := range []struct {
		text string
		at   int
		err  api.Errno
	}{
		{"a", -1, api.ErrArg}, {"a", 2, api.ErrArg}, {"a", math.MinInt, api.ErrArg}, {"a", math.MaxInt, api.ErrArg}, {"", 1, api.ErrArg},
		{"a", 1, api.ErrShort}, {"", 0, api.ErrShort},
		{`"`, 0, api.ErrForm}, {`"a`, 0, api.ErrForm}, {"\x00", 0, api.ErrForm}, {"\x1f", 0, api.ErrForm}, {"\n", 0, api.ErrForm},
		{`\`, 0, api.ErrForm}, {`\x`, 0, api.ErrForm}, {`\N`, 0, api.ErrForm}, {`\0`, 0, api.ErrForm}, {`\a`, 0, api.ErrForm}, {`\v`, 0, api.ErrForm}, {`\'`, 0, api.ErrForm},
		{`\u`, 0, api.ErrForm}, {`\u0`, 0, api.ErrForm}, {`\u004`, 0, api.ErrForm}, {`\U0041`, 0, api.ErrForm},
		{`\u004g`, 0, api.ErrForm}, {`\u004G`, 0, api.ErrForm}, {`\u00:0`, 0, api.ErrForm}, {`\u00/0`, 0, api.ErrForm}, {`\u00@0`, 0, api.ErrForm}, {"\\u00`0", 0, api.ErrForm}, {`\u+041`, 0, api.ErrForm},
		{`\ud800`, 0, api.ErrForm}, {`\udbff`, 0, api.ErrForm}, {`\udc00`, 0, api.ErrForm}, {`\udfff`, 0, api.ErrForm},
		{`\ud83d\u0041`, 0, api.ErrForm}, {`\ud83d\ud83d`, 0, api.ErrForm}, {`\ude00\ud83d`, 0, api.ErrForm}, {`\udc00\udc00`, 0, api.ErrForm}, {`\udfff\udc00`, 0, api.ErrForm}, {`\ud83d\ue000`, 0, api.ErrForm}, {`\ud83d\udbff`, 0, api.ErrForm},
		{`\ud83d\ude0`, 0, api.ErrForm}, {`\ud83d\n`, 0, api.ErrForm}, {`\ud83dxude00`, 0, api.ErrForm}, {`\ud83d\xde00`, 0, api.ErrForm}, {`\ud83d/ude00`, 0, api.ErrForm},
		{"\x80", 0, api.ErrUtf}, {"\xff", 0, api.ErrUtf}, {"\xe2\x82", 0, api.ErrUtf}, {"a\xed\xa0\x80", 1, api.ErrUtf}, {"\xc1\x81", 0, api.ErrUtf}, {"\xe2\x82\"", 0, api.ErrUtf},
	} {
		if cp, next, err := quote.Sign([]byte(x.text), x.at); cp != 0 || next != 0 || err != x.err {
			t.Errorf("Sign(%q, %d) = %x %d %d, want %d", x.text, x.at, cp, next, err, x.err)
		}
	}
}

// P2.2
func TestRead(t *testing.T) {
	for _, x := range []struct {
		text string
		at   int
		want string
		next int
		err  api.Errno
	}{
		{`"a\n\u0041"`, 0, "a\nA", 11, api.OK},
		{`x"b"`, 1, "b", 4, api.OK},
		{`""`, 0, "", 2, api.OK},
		{`"""`, 1, "", 3, api.OK},
		{`"a"b"`, 0, "a", 3, api.OK},
		{`"a/\/é"`, 0, "a//é", 8, api.OK},
		{`"\ud83d\ude00"`, 0, "\U0001F600", 14, api.OK},
		{`"\u0000"`, 0, "\x00", 8, api.OK},
		{`"a"`, 4, "", 0, api.ErrArg},
		{`"a"`, -1, "", 0, api.ErrArg},
		{`"a"`, math.MaxInt, "", 0, api.ErrArg},
		{`"a"`, 3, "", 3, api.ErrShort},
		{``, 0, "", 0, api.ErrShort},
		{`a`, 0, "", 0, api.ErrForm},
		{"x\xff", 1, "", 1, api.ErrForm},
		{`"a"`, 1, "", 1, api.ErrForm},
		{`"`, 0, "", 1, api.ErrShort},
		{`"a`, 0, "", 2, api.ErrShort},
		{`"a\"`, 0, "", 4, api.ErrShort},
		{`"a\`, 0, "", 2, api.ErrForm},
		{`"\x"`, 0, "", 1, api.ErrForm},
		{`"ab\u12"`, 0, "", 3, api.ErrForm},
		{`"\ud83d"`, 0, "", 1, api.ErrForm},
		{`"\ud83d`, 0, "", 1, api.ErrForm},
		{`"\u0041\ude00"`, 0, "", 7, api.ErrForm},
		{"\"a\n\"", 0, "", 2, api.ErrForm},
		{"\"a\xff\"", 0, "", 2, api.ErrUtf},
		{"\"\xe2\x82", 0, "", 1, api.ErrUtf},
		{"x\"\\\\\xe2\"", 1, "", 4, api.ErrUtf},
	} {
		if s, next, err := quote.Read([]byte(x.text), x.at); s != x.want || next != x.next || err != x.err {
			t.Errorf("Read(%q, %d) = %q %d %d, want %q %d %d", x.text, x.at, s, next, err, x.want, x.next, x.err)
		}
	}
}

// texts are strings of up to three characters of all sorts.
func texts() []string {
	signs := []string{"", "a", "\"", "\\", "/", "\x00", "\x01", "\b", "\t", "\n", "\x0b", "\f", "\r", "\x0f", "\x10", "\x1f", " ", "\x7f", "\u0080", "é", "€", "\u2028", "\U0001F600"}
	var out []string
	for _, a := range signs {
		for _, b := range signs {
			out = append(out, a+b, a+b+"z")
		}
	}
	return out
}

// P2.3, P2.4
func TestPrintReadAndSize(t *testing.T) {
	for _, s := range texts() {
		want := canonical(s)
		got, err := quote.Print(s)
		if got != want || err != api.OK {
			t.Fatalf("Print(%q) = %s %d, want %s", s, got, err, want)
		}
		if n := quote.Size(s); n != len(want) {
			t.Errorf("Size(%q) = %d, want %d", s, n, len(want))
		}
		for _, around := range []string{"", `"`, "a", `\`, "\xff"} {
			if r, next, err := quote.Read([]byte(around+got+around), len(around)); r != s || next != len(around)+len(got) || err != api.OK {
				t.Errorf("Read of %q within %q = %q %d %d", got, around, r, next, err)
			}
		}
	}
	for _, s := range []string{"\xff", "a\xe2\x82", "\xed\xa0\x80b", "\"\x80"} {
		if got, err := quote.Print(s); got != "" || err != api.ErrUtf {
			t.Errorf("Print(%q) = %q %d", s, got, err)
		}
		if n := quote.Size(s); n != 0 {
			t.Errorf("Size(%q) = %d", s, n)
		}
	}
}

// P2.3: no more than the named characters are escaped.
func TestPrintOfEveryByte(t *testing.T) {
	for r := rune(0); r < 0x300; r++ {
		if got, err := quote.Print(string(r)); got != canonical(string(r)) || err != api.OK {
			t.Errorf("Print(%x) = %s %d", r, got, err)
		}
	}
}

// P2.4
func TestNoPrefixOfALiteralIsOne(t *testing.T) {
	literal := `"a\"\\é\u0041\ud83d\ude00\n"`
	for n := range len(literal) {
		if s, _, err := quote.Read([]byte(literal[:n]), 0); s != "" || err == api.OK {
			t.Errorf("Read(%q) = %q %d", literal[:n], s, err)
		}
	}
}

// P2.4: other spellings of a string, and against the library.
func TestNoLiteralIsShorter(t *testing.T) {
	for _, s := range texts() {
		long := `"`
		for _, r := range s {
			if r < 0x10000 {
				x := strconv.FormatInt(int64(r), 16)
				long += `\u` + strings.Repeat("0", 4-len(x)) + x
			} else {
				long += string(r)
			}
		}
		long += `"`
		short, _ := quote.Print(s)
		if r, _, err := quote.Read([]byte(long), 0); r != s || err != api.OK || len(long) < len(short) {
			t.Errorf("Read(%q) = %q %d, printed as %q", long, r, err, short)
		}
		var std string
		if json.Unmarshal([]byte(short), &std) != nil || std != s || !utf8.ValidString(std) {
			t.Errorf("the library reads %q as %q", short, std)
		}
	}
}
