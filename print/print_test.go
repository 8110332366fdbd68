package print_test

import (
	"bytes"
	"encoding/json"
	"math"
	"strings"
	"testing"

	"davenport/api"
	"davenport/parse"
	"davenport/print"
	"davenport/sample"
	"davenport/value"
)

func text(s string) api.Value {
	return api.Value{Kind: api.VText, S: s}
}

func list(kids ...api.Value) api.Value {
	return api.Value{Kind: api.VList, Kids: kids}
}

// P6.1
func TestPrintAndSize(t *testing.T) {
	empty := api.Value{Kind: api.VObject}
	one := api.Value{Kind: api.VObject, Keys: []string{"a"}, Kids: []api.Value{value.Int(1)}}
	more := api.Value{Kind: api.VObject, Keys: []string{"", "\"\n", "a"}, Kids: []api.Value{list(), one, text("x\"")}}
	for _, x := range []struct {
		v    api.Value
		want string
	}{
		{value.Null(), "null"}, {value.Bool(true), "true"}, {value.Bool(false), "false"},
		{value.Int(0), "0"}, {value.Int(-7), "-7"}, {value.Int(math.MinInt64), "-9223372036854775808"}, {value.Int(math.MaxInt64), "9223372036854775807"},
		{text(""), `""`}, {text("a/\"\\\n\x01é\x7f\u2028"), "\"a/\\\"\\\\\\n\\u0001é\x7f\u2028\""},
		{list(), "[]"}, {empty, "{}"}, {list(value.Bool(true), value.Int(-7)), "[true,-7]"}, {list(list(), empty, list(text("a"))), `[[],{},["a"]]`},
		{one, `{"a":1}`}, {more, `{"":[],"\"\n":{"a":1},"a":"x\""}`},
	} {
		if s, err := print.Print(x.v); s != x.want || err != api.OK {
			t.Errorf("Print(%v) = %s %d, want %s", x.v, s, err, x.want)
		}
		if n, err := print.Size(x.v); n != len(x.want) || err != api.OK {
			t.Errorf("Size(%v) = %d %d", x.v, n, err)
		}
	}
	for i, v := range sample.Wrong() {
		if s, err := print.Print(v); s != "" || err != api.ErrValue {
			t.Errorf("Print of wrong value %d = %s %d", i, s, err)
		}
		if n, err := print.Size(v); n != 0 || err != api.ErrValue {
			t.Errorf("Size of wrong value %d = %d %d", i, n, err)
		}
	}
}

// P6.1: the limit counts the bytes of the text, not those of the string.
func TestLimit(t *testing.T) {
	for _, x := range []struct {
		v    api.Value
		size int
	}{
		{text(strings.Repeat("a", 2045)), 2047}, {text(strings.Repeat("a", 2046)), 2048}, {text(strings.Repeat("a", 2047)), 2049},
		{text(strings.Repeat("\n", 1023)), 2048}, {text(strings.Repeat("\n", 1024)), 2050}, {text(strings.Repeat("é", 1023)), 2048}, {text(strings.Repeat("\x00", 2046)), 6*2046 + 2},
		{list(text(strings.Repeat("a", 1000)), text(strings.Repeat("b", 1041))), 2048}, {list(text(strings.Repeat("a", 1000)), text(strings.Repeat("b", 1042))), 2049},
	} {
		s, err := print.Print(x.v)
		if x.size <= api.MaxJson && (len(s) != x.size || err != api.OK) || x.size > api.MaxJson && (s != "" || err != api.ErrLong) {
			t.Errorf("Print of a text of %d bytes = %d bytes, %d", x.size, len(s), err)
		}
		if n, err := print.Size(x.v); n != x.size || err != api.OK {
			t.Errorf("Size of a text of %d bytes = %d %d", x.size, n, err)
		}
	}
}

// P6.2
func TestAgain(t *testing.T) {
	for _, x := range []struct{ text, want string }{
		{`{ "b" : 1, "a":"\u0041" }`, `{"a":"A","b":1}`}, {" null\n", "null"}, {`[ -0 , "\/" , { } ]`, `[0,"/",{}]`}, {`"\u00e9\u001f"`, `"é\u001f"`},
	} {
		if s, at, err := print.Again([]byte(x.text)); s != x.want || at != 0 || err != api.OK {
			t.Errorf("Again(%s) = %s %d %d", x.text, s, at, err)
		}
	}
	for _, x := range []string{"", "[1,]", "[1.5]", `{"a":1,"a":1}`, `["` + "\xff", "01", strings.Repeat("[", 9), strings.Repeat(" ", 2049)} {
		_, wantAt, want := parse.Parse([]byte(x))
		if s, at, err := print.Again([]byte(x)); s != "" || at != wantAt || err != want || err == api.OK {
			t.Errorf("Again(%q) = %q %d %d, want %d %d", x, s, at, err, wantAt, want)
		}
	}
}

// P6.3
func TestConsequences(t *testing.T) {
	random := sample.New(6)
	texts := map[string]api.Value{}
	for _, v := range random.Values(600) {
		s, err := print.Print(v)
		if err != api.OK {
			t.Fatalf("Print(%v) = %d", v, err)
		}
		if other, ok := texts[s]; ok && !value.Same(v, other) {
			t.Fatalf("%v and %v are both printed as %s", v, other, s)
		}
		texts[s] = v
		if got, _, err := parse.Parse([]byte(s)); err != api.OK || !value.Same(got, v) {
			t.Fatalf("Parse(%s) = %v %d", s, got, err)
		}
		var wide bytes.Buffer
		if json.Indent(&wide, []byte(s), " ", "  ") != nil {
			t.Fatalf("the library cannot read %s", s)
		}
		if again, at, err := print.Again(wide.Bytes()); again != s || at != 0 || err != api.OK {
			t.Fatalf("Again(%s) = %s %d %d", wide.String(), again, at, err)
		}
		var shorter bytes.Buffer
		if json.Compact(&shorter, []byte(s)); shorter.String() != s {
			t.Fatalf("%s can be shorter: %s", s, shorter.String())
		}
	}
}
