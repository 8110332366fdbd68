package parse_test

import (
	"encoding/json"
	"math"
	"slices"
	"strings"
	"testing"

	"davenport/api"
	"davenport/parse"
	"davenport/sample"
	"davenport/value"
)

func list(kids ...api.Value) api.Value {
	return api.Value{Kind: api.VList, Kids: kids}
}

func text(s string) api.Value {
	return api.Value{Kind: api.VText, S: s}
}

func object(pairs ...api.Pair) api.Value {
	v, _ := value.Object(pairs...)
	return v
}

// P5.1
func TestParse(t *testing.T) {
	one, null := value.Int(1), value.Null()
	for _, x := range []struct {
		text string
		want api.Value
	}{
		{"null", null}, {"true", value.Bool(true)}, {"false", value.Bool(false)}, {"0", value.Int(0)}, {"-0", value.Int(0)}, {"-12", value.Int(-12)}, {"9223372036854775807", value.Int(math.MaxInt64)},
		{`""`, text("")}, {`"a\u00e9\n"`, text("aé\n")}, {"[]", list()}, {"{}", object()}, {" \t\r\n[ \t\r\n] \t\r\n", list()}, {"\n{ \r}\t", object()},
		{`[1,null]`, list(one, null)}, {`[[],[[]]]`, list(list(), list(list()))}, {`[1 , "x" ]`, list(one, text("x"))},
		{`{"a":1}`, object(api.Pair{Key: "a", Value: one})},
		{"\t{\n\"b\" \r: null , \"a\":[1]\t}\n", object(api.Pair{Key: "a", Value: list(one)}, api.Pair{Key: "b", Value: null})},
		{`{"c":1,"a":null,"b":{},"":[]}`, object(api.Pair{Key: "c", Value: one}, api.Pair{Key: "a", Value: null}, api.Pair{Key: "b", Value: object()}, api.Pair{Key: "", Value: list()})},
		{`{"\u0061":{"a":1},"b":{"a":1}}`, object(api.Pair{Key: "a", Value: object(api.Pair{Key: "a", Value: one})}, api.Pair{Key: "b", Value: object(api.Pair{Key: "a", Value: one})})},
		{strings.Repeat("[", 8) + strings.Repeat("]", 8), list(list(list(list(list(list(list(list())))))))},
	} {
		if v, at, err := parse.Parse([]byte(x.text)); err != api.OK || at != 0 || !value.Same(v, x.want) {
			t.Errorf("Parse(%q) = %v %d %d", x.text, v, at, err)
		}
		if v, at, err := parse.Value([]byte("]"+x.text+" ]"), 1); err != api.OK || at != 1+len(strings.TrimRight(x.text, " \t\r\n")) || !value.Same(v, x.want) {
			t.Errorf("Value(%q, 1) = %v %d %d", x.text, v, at, err)
		}
	}
}

// P5.1, P5.2: the errors that both report at the same place.
func TestErrors(t *testing.T) {
	many := "[" + strings.Repeat("1,", 255)
	eight := strings.Repeat("[", 8)
	for _, x := range []struct {
		text string
		at   int
		err  api.Errno
	}{
		{"", 0, api.ErrShort}, {"  ", 2, api.ErrShort}, {"[1, ", 4, api.ErrShort}, {"[", 1, api.ErrShort}, {"[1", 2, api.ErrShort}, {"[1,", 3, api.ErrShort}, {"[1 \n", 4, api.ErrShort},
		{"{", 1, api.ErrShort}, {`{"a"`, 4, api.ErrShort}, {`{"a":`, 5, api.ErrShort}, {`{"a":1`, 6, api.ErrShort}, {`{"a":1,`, 7, api.ErrShort}, {`{"a`, 3, api.ErrShort},
		{"tru", 3, api.ErrShort}, {"t", 1, api.ErrShort}, {"[fals", 5, api.ErrShort}, {"n", 1, api.ErrShort},
		{`"a`, 2, api.ErrShort}, {"-", 1, api.ErrShort}, {"1.", 2, api.ErrShort}, {"[1e+", 4, api.ErrShort}, {"1E", 2, api.ErrShort},
		{"trux", 3, api.ErrForm}, {"nul1", 3, api.ErrForm}, {"fAlse", 1, api.ErrForm}, {"[n]", 2, api.ErrForm}, {"Null", 0, api.ErrForm}, {"nUll", 1, api.ErrForm}, {"t rue", 1, api.ErrForm},
		{"]", 0, api.ErrForm}, {"}", 0, api.ErrForm}, {",", 0, api.ErrForm}, {":", 0, api.ErrForm}, {"+1", 0, api.ErrForm}, {".5", 0, api.ErrForm}, {"'a'", 0, api.ErrForm}, {"\x00", 0, api.ErrForm}, {"\xff", 0, api.ErrForm}, {"\v1", 0, api.ErrForm}, {"\xef\xbb\xbf1", 0, api.ErrForm}, {"[\x00", 1, api.ErrForm}, {"[1\x00", 2, api.ErrForm},
		{"[,", 1, api.ErrForm}, {"[1,]", 3, api.ErrForm}, {"[1}", 2, api.ErrForm}, {"[1 2]", 3, api.ErrForm}, {"[1:", 2, api.ErrForm}, {"[}", 1, api.ErrForm}, {"[1,,", 3, api.ErrForm}, {"[01]", 2, api.ErrForm}, {"[1 ,  }", 6, api.ErrForm},
		{"{1", 1, api.ErrForm}, {"{]", 1, api.ErrForm}, {"{,", 1, api.ErrForm}, {"{null", 1, api.ErrForm}, {`{"a"}`, 4, api.ErrForm}, {`{"a" 1}`, 5, api.ErrForm}, {`{"a",`, 4, api.ErrForm}, {`{"a":}`, 5, api.ErrForm}, {`{"a":,`, 5, api.ErrForm}, {`{"a"::`, 5, api.ErrForm}, {`{"a":1]`, 6, api.ErrForm}, {`{"a":1 "b"`, 7, api.ErrForm}, {`{"a":1,}`, 7, api.ErrForm}, {`{"a":1,1`, 7, api.ErrForm}, {`{"a":1:`, 6, api.ErrForm},
		{"-x", 1, api.ErrForm}, {"1.x", 2, api.ErrForm}, {"[1.]", 3, api.ErrForm}, {"1e]", 2, api.ErrForm},
		{"[1.5]", 1, api.ErrNumber}, {" 1e5", 1, api.ErrNumber}, {"[9223372036854775808", 1, api.ErrNumber}, {"-9223372036854775809", 0, api.ErrNumber},
		{`["\x"]`, 2, api.ErrForm}, {"[\"a\xff", 3, api.ErrUtf}, {"{\"a\xff", 3, api.ErrUtf}, {`{"\ud800"`, 2, api.ErrForm}, {"{\"a\n", 3, api.ErrForm},
		{`{"a":1,"a":2}`, 7, api.ErrDouble}, {`{"a":1, "\u0061"x`, 8, api.ErrDouble}, {`{"b":1,"a":2,"c":3,"a"`, 19, api.ErrDouble}, {`[{"a":{"a":1,"b":2}, "a"`, 21, api.ErrDouble}, {`{"":1,"":`, 6, api.ErrDouble}, {`{"a":1,"a`, 9, api.ErrShort},
		{eight + "[", 8, api.ErrDeep}, {eight + " {", 9, api.ErrDeep}, {`{"a":[[[[[[[[`, 12, api.ErrDeep}, {eight + "1,[", 10, api.ErrDeep},
		{many + "1", 511, api.ErrMany}, {many + "[", 511, api.ErrMany}, {many + "tx", 511, api.ErrMany}, {many + "-", 511, api.ErrMany}, {many + `"`, 511, api.ErrMany}, {many + "{", 511, api.ErrMany}, {many + "x", 511, api.ErrForm}, {many + "]", 511, api.ErrForm}, {many, 511, api.ErrShort}, {many + " 1", 512, api.ErrMany},
		{eight + strings.Repeat("1,", 248) + "[", 504, api.ErrMany}, {eight + strings.Repeat("1,", 247) + "[", 502, api.ErrDeep},
	} {
		if v, at, err := parse.Parse([]byte(x.text)); err != x.err || at != x.at || v.Kind != 0 || len(v.Kids) != 0 {
			t.Errorf("Parse(%q) = %v %d %d, want %d %d", x.text, v, at, err, x.at, x.err)
		}
		if v, at, err := parse.Value([]byte("] "+x.text), 1); err != x.err || at != 2+x.at || v.Kind != 0 || len(v.Kids) != 0 {
			t.Errorf("Value(%q) = %v %d %d, want %d %d", x.text, v, at, err, 2+x.at, x.err)
		}
	}
}

// P5.1: only Parse minds what follows.
func TestWhatFollows(t *testing.T) {
	for _, x := range []struct {
		text        string
		wrong, next int
	}{
		{"01", 1, 1}, {"1 1", 2, 1}, {"[] ]", 3, 2}, {"nullx", 4, 4}, {"null null", 5, 4}, {`"a""`, 3, 3}, {"{},", 2, 2}, {"1\x00", 1, 1}, {"-0-", 2, 2}, {"1:", 1, 1},
	} {
		if v, at, err := parse.Parse([]byte(x.text)); err != api.ErrForm || at != x.wrong || v.Kind != 0 {
			t.Errorf("Parse(%q) = %v %d %d", x.text, v, at, err)
		}
		if v, at, err := parse.Value([]byte(x.text), 0); err != api.OK || at != x.next || v.Kind == 0 {
			t.Errorf("Value(%q, 0) = %v %d %d", x.text, v, at, err)
		}
	}
}

// P5.1, P5.2: the limits, and that the values just within them are read.
func TestLimits(t *testing.T) {
	fits := []byte(strings.Repeat(" ", api.MaxJson-1) + "1")
	if v, at, err := parse.Parse(fits); err != api.OK || at != 0 || v.N != 1 {
		t.Errorf("Parse of MaxJson bytes = %v %d %d", v, at, err)
	}
	if v, at, err := parse.Value(fits, 7); err != api.OK || at != api.MaxJson || v.N != 1 {
		t.Errorf("Value of MaxJson bytes = %v %d %d", v, at, err)
	}
	long := append([]byte("x"), fits...)
	if v, at, err := parse.Parse(long); err != api.ErrLong || at != 0 || v.Kind != 0 {
		t.Errorf("Parse of MaxJson + 1 bytes = %v %d %d", v, at, err)
	}
	if v, at, err := parse.Value(long, 2000); err != api.ErrLong || at != 0 || v.Kind != 0 {
		t.Errorf("Value of MaxJson + 1 bytes = %v %d %d", v, at, err)
	}
	for _, at := range []int{-1, math.MinInt, len(long) + 1, math.MaxInt} {
		if v, next, err := parse.Value(long, at); err != api.ErrArg || next != 0 || v.Kind != 0 {
			t.Errorf("Value at %d = %v %d %d", at, v, next, err)
		}
	}
	if _, at, err := parse.Value([]byte("1"), 1); err != api.ErrShort || at != 1 {
		t.Errorf("Value at the end = %d %d", at, err)
	}
	wide := "[" + strings.Repeat("1,", 254) + "1]"
	if v, _, err := parse.Parse([]byte(wide)); err != api.OK || value.Nodes(v) != 256 {
		t.Errorf("Parse of 256 values = %d", err)
	}
	// Keys are no values of their own.
	members := `{"k":1`
	for i := range 254 {
		members += `,"` + string(rune(0x100+i)) + `":1`
	}
	if v, _, err := parse.Parse([]byte(members + "}")); err != api.OK || value.Nodes(v) != 256 {
		t.Errorf("Parse of 255 members = %d", err)
	}
	// What is beside a value counts, and does not deepen it.
	if v, _, err := parse.Parse([]byte(`[[[],[]],[[[[[[[]]]]]]],[]]`)); err != api.OK || value.Depth(v) != 8 {
		t.Errorf("Parse of depth 8 = %d", err)
	}
}

// P5.1: all short texts, against the library; and the place of an error is the first that cannot be continued.
func TestShortTexts(t *testing.T) {
	texts := []string{""}
	for range 5 {
		var longer []string
		for _, s := range texts {
			for _, c := range []string{"[", "]", "{", "}", ",", ":", `"a"`, `"b"`, "1", " "} {
				longer = append(longer, s+c)
			}
		}
		for _, s := range longer {
			v, at, err := parse.Parse([]byte(s))
			double := strings.Count(s, `"a"`) > 1 || strings.Count(s, `"b"`) > 1
			if (err == api.OK) != json.Valid([]byte(s)) && !(double && err == api.ErrDouble) {
				t.Fatalf("Parse(%q) = %v %d %d", s, v, at, err)
			}
			if err == api.ErrForm {
				if _, a, e := parse.Parse([]byte(s[:at])); e != api.OK && (e != api.ErrShort || a != at) {
					t.Fatalf("Parse(%q) is wrong at %d, Parse(%q) = %d %d", s, at, s[:at], a, e)
				}
				if _, a, e := parse.Parse([]byte(s[:at+1])); e != api.ErrForm && s[at] != '"' || a != at && s[at] != '"' {
					t.Fatalf("Parse(%q) is wrong at %d, Parse(%q) = %d %d", s, at, s[:at+1], a, e)
				}
			}
			if err == api.ErrShort && at != len(s) {
				t.Fatalf("Parse(%q) is short at %d", s, at)
			}
		}
		texts = longer
	}
}

// P5.3: values written by the library, with spaces, with members in reverse, in brackets, and cut off.
func TestConsequences(t *testing.T) {
	random := sample.New(5)
	for _, v := range random.Values(400) {
		plain := write(v, false, "")
		got, at, err := parse.Parse([]byte(plain))
		if err != api.OK || at != 0 || !value.Same(got, v) || value.Check(got) != api.OK {
			t.Fatalf("Parse(%q) = %v %d %d", plain, got, at, err)
		}
		if got, _, err := parse.Parse([]byte(write(v, false, " \n"))); err != api.OK || !value.Same(got, v) {
			t.Fatalf("Parse of %q with white space = %v %d", plain, got, err)
		}
		if got, _, err := parse.Parse([]byte(write(v, true, ""))); err != api.OK || !value.Same(got, v) {
			t.Fatalf("Parse of %q in reverse = %v %d", plain, got, err)
		}
		if got, _, err := parse.Parse([]byte("[" + plain + "]")); err != api.OK || !value.Same(got, list(v)) {
			t.Fatalf("Parse of %q in brackets = %v %d", plain, got, err)
		}
		if v.Kind < api.VText {
			continue
		}
		for n := range len(plain) {
			if _, _, err := parse.Parse([]byte(plain[:n])); err == api.OK {
				t.Fatalf("Parse(%q) finds no error", plain[:n])
			}
		}
	}
}

// write writes a value with some white space, and its members in order or in reverse.
func write(v api.Value, turned bool, space string) string {
	scalar := func(x any) string {
		b, _ := json.Marshal(x)
		return space + string(b) + space
	}
	var parts []string
	for i, kid := range v.Kids {
		part := write(kid, turned, space)
		if v.Kind == api.VObject {
			part = scalar(v.Keys[i]) + ":" + part
		}
		parts = append(parts, part)
	}
	if turned && v.Kind == api.VObject {
		slices.Reverse(parts)
	}
	inner := space + strings.Join(parts, ",") + space
	switch v.Kind {
	case api.VNull:
		return scalar(nil)
	case api.VBool:
		return scalar(v.N == 1)
	case api.VInt:
		return scalar(v.N)
	case api.VText:
		return scalar(v.S)
	case api.VList:
		return space + "[" + inner + "]" + space
	}
	return space + "{" + inner + "}" + space
}
