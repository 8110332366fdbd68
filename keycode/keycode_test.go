package keycode_test

import (
	"bytes"
	"encoding/hex"
	"math"
	"strings"
	"testing"

	"davenport/api"
	"davenport/collate"
	"davenport/keycode"
	"davenport/parse"
	"davenport/sample"
	"davenport/value"
)

func code(t *testing.T, s string) []byte {
	t.Helper()
	b, err := hex.DecodeString(strings.ReplaceAll(s, " ", ""))
	if err != nil {
		t.Fatal(err)
	}
	return b
}

var known = []struct{ text, code string }{
	{"null", "01"}, {"false", "02"}, {"true", "03"},
	{"0", "04 8000000000000000"}, {"-1", "04 7FFFFFFFFFFFFFFF"}, {"1", "04 8000000000000001"}, {"-9223372036854775808", "04 0000000000000000"}, {"9223372036854775807", "04 FFFFFFFFFFFFFFFF"}, {"72623859790382856", "04 8102030405060708"},
	{`""`, "05 0000"}, {`"a"`, "05 61 0000"}, {`"a\u0000"`, "05 61 00FF 0000"}, {`"\u0000\u0000b"`, "05 00FF00FF62 0000"}, {`"é"`, "05 C3A9 0000"},
	{"[]", "06 00"}, {`[true,""]`, "06 03 050000 00"}, {"[[],[null]]", "06 0600 060100 00"},
	{"{}", "07 00"}, {`{"a":false}`, "07 05610000 02 00"}, {`{"a":[],"a\u0000":{},"b":"x"}`, "07 05610000 0600 056100FF0000 0700 05620000 05780000 00"},
}

// P8.1, P8.2
func TestKnownCodes(t *testing.T) {
	for _, x := range known {
		v, _, _ := parse.Parse([]byte(x.text))
		want := code(t, x.code)
		if b, err := keycode.Encode(v); !bytes.Equal(b, want) || err != api.OK {
			t.Errorf("Encode(%s) = %x %d", x.text, b, err)
		}
		if got, err := keycode.Decode(want); !value.Same(got, v) || err != api.OK {
			t.Errorf("Decode(%x) = %v %d", want, got, err)
		}
		for _, tail := range []string{"", "00", "01", "FF", "05"} {
			around := code(t, "09"+x.code+tail)
			if got, next, err := keycode.Get(around, 1); !value.Same(got, v) || next != 1+len(want) || err != api.OK {
				t.Errorf("Get(%x, 1) = %v %d %d", around, got, next, err)
			}
			if got, err := keycode.Decode(around[1:]); tail != "" && (got.Kind != 0 || err != api.ErrCode) {
				t.Errorf("Decode(%x) = %v %d", around[1:], got, err)
			}
		}
		for n := range len(want) {
			if got, err := keycode.Decode(want[:n]); got.Kind != 0 || err != api.ErrShort {
				t.Errorf("Decode(%x) = %v %d", want[:n], got, err)
			}
			if got, next, err := keycode.Get(append([]byte{9, 9}, want[:n]...), 2); got.Kind != 0 || next != 0 || err != api.ErrShort {
				t.Errorf("Get(%x) = %v %d %d", want[:n], got, next, err)
			}
		}
	}
	for i, v := range sample.Wrong() {
		if b, err := keycode.Encode(v); len(b) != 0 || err != api.ErrValue {
			t.Errorf("Encode of wrong value %d = %x %d", i, b, err)
		}
	}
}

// P8.2
func TestWrongCodes(t *testing.T) {
	for _, s := range []string{
		"00", "08", "FF", "06 08", "06 FF", "07 01", "07 02", "07 06", "07 08", "07 04", "07 FF",
		"05 61 0001", "05 00FE", "05 0080 00", "05 FF 0000", "05 61 C3 0000", "05 EDA080 0000", "05 C181 0000",
		"07 05610000 00", "07 05610000 08", "07 05FF0000", "07 050001",
		"07 05620000 01 05610000", "07 05610000 01 05610000", "07 05610000 01 050000", "07 05610000 01 02", "07 0561000001 056100FF0000 01 05610000",
		"06 00 00", "01 01", "04 8000000000000000 00",
		strings.Repeat("06", 9), strings.Repeat("06", 8) + "07", strings.Repeat("07 050000", 8) + "06", strings.Repeat("07 050000", 8) + "07",
		"06" + strings.Repeat("01", 256), "06" + strings.Repeat("01", 255) + "08", "06" + strings.Repeat("0600", 255) + "01", "06" + strings.Repeat("01", 255) + "05",
	} {
		b := code(t, s)
		if got, err := keycode.Decode(b); got.Kind != 0 || len(got.Kids) != 0 || err != api.ErrCode {
			t.Errorf("Decode(%s) = %v %d", s, got, err)
		}
	}
	// The first error counts, not a later end.
	for _, s := range []string{"07 05620000 01 0561", "05 FF", "06 05 C3", "04 80"} {
		if _, err := keycode.Decode(code(t, s)); err != api.ErrShort {
			t.Errorf("Decode(%s) = %d", s, err)
		}
	}
}

// P8.2: values at the limits are decoded.
func TestLimits(t *testing.T) {
	for _, v := range []api.Value{sample.Nest(8), sample.Wide(256), {Kind: api.VList, Kids: []api.Value{sample.Wide(128), sample.Wide(127)}}} {
		b, err := keycode.Encode(v)
		if got, e := keycode.Decode(b); err != api.OK || e != api.OK || !value.Same(got, v) {
			t.Errorf("Decode(%x) = %v %d", b, got, e)
		}
		for n := range len(b) {
			if _, e := keycode.Decode(b[:n]); e != api.ErrShort {
				t.Errorf("Decode of the first %d of %d bytes = %d", n, len(b), e)
			}
		}
	}
	// Keys are no values of their own.
	many := api.Value{Kind: api.VObject}
	for i := range 255 {
		many.Keys = append(many.Keys, string(rune(0x100+i)))
		many.Kids = append(many.Kids, value.Null())
	}
	b, _ := keycode.Encode(many)
	if got, err := keycode.Decode(b); err != api.OK || !value.Same(got, many) {
		t.Errorf("Decode of 255 members = %d", err)
	}
	for _, at := range []int{-1, 2, math.MinInt, math.MaxInt} {
		if got, next, err := keycode.Get([]byte{1}, at); got.Kind != 0 || next != 0 || err != api.ErrArg {
			t.Errorf("Get(01, %d) = %v %d %d", at, got, next, err)
		}
	}
	if _, _, err := keycode.Get([]byte{1}, 1); err != api.ErrShort {
		t.Errorf("Get(01, 1) = %d", err)
	}
}

// P8.2: whatever is decoded is the code of what it is decoded as.
func TestChangedCodes(t *testing.T) {
	random := sample.New(8)
	for _, v := range random.Values(300) {
		b, _ := keycode.Encode(v)
		for i := range b {
			for _, x := range []byte{0, 1, 3, 5, 6, 7, 8, 255, b[i] + 1} {
				changed := bytes.Clone(b)
				changed[i] = x
				got, next, err := keycode.Get(changed, 0)
				if err != api.OK {
					if err != api.ErrCode && err != api.ErrShort || got.Kind != 0 || next != 0 {
						t.Fatalf("Get(%x) = %v %d %d", changed, got, next, err)
					}
					continue
				}
				if again, e := keycode.Encode(got); e != api.OK || !bytes.Equal(again, changed[:next]) {
					t.Fatalf("Get(%x) = %v, %d, whose code is %x", changed, got, next, again)
				}
			}
		}
	}
}

// P8.3
func TestCompare(t *testing.T) {
	l := []string{"", "\x00", "\x00\x00", "\x00\x01", "\x01", "\x7f", "\x80", "\x80\x00", "\xff", "\xff\xff"}
	for i, a := range l {
		for j, b := range l {
			want := 0
			if i < j {
				want = -1
			} else if i > j {
				want = 1
			}
			if n := keycode.Compare([]byte(a), []byte(b)); n != want {
				t.Errorf("Compare(%x, %x) = %d", a, b, n)
			}
		}
	}
	if n := keycode.Compare(nil, []byte{}); n != 0 {
		t.Errorf("Compare(nil, empty) = %d", n)
	}
}

// P8.4
func TestConsequences(t *testing.T) {
	random := sample.New(9)
	l := random.Values(150)
	for _, x := range known {
		v, _, _ := parse.Parse([]byte(x.text))
		l = append(l, v)
	}
	var codes [][]byte
	for _, v := range l {
		b, err := keycode.Encode(v)
		if err != api.OK {
			t.Fatal(err)
		}
		codes = append(codes, b)
		if got, next, err := keycode.Get(append([]byte("\x05\x00"), append(b, 0xFF, 0)...), 2); err != api.OK || next != 2+len(b) || !value.Same(got, v) {
			t.Fatalf("Get of the code of %v = %v %d %d", v, got, next, err)
		}
	}
	for i, a := range l {
		for j, b := range l {
			want, _ := collate.Compare(a, b)
			if n := keycode.Compare(codes[i], codes[j]); n != want {
				t.Fatalf("%v and %v compare as %d, their codes as %d", a, b, want, n)
			}
			if want != 0 && bytes.HasPrefix(codes[i], codes[j]) {
				t.Fatalf("the code of %v is a prefix of that of %v", b, a)
			}
		}
	}
}
