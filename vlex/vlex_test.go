package vlex_test

import (
	"math"
	"slices"
	"strings"
	"testing"

	"davenport/api"
	"davenport/numeral"
	"davenport/quote"
	"davenport/vlex"
)

func token(kind, at int, text string) api.Token {
	return api.Token{Kind: kind, At: at, Text: text}
}

func number(at int, text string, n int64) api.Token {
	return api.Token{Kind: api.TkInt, At: at, Text: text, N: n}
}

var keywords = []string{"emit", "if", "else", "for", "in", "or", "and", "not", "size", "kind", "true", "false", "null"}

var operators = []string{"==", "<=", "<", ";", ".", ",", "[", "]", "(", ")", "{", "}", "+", "-", "*"}

// P22.1
func TestLex(t *testing.T) {
	for _, x := range []struct {
		src  string
		want []api.Token
	}{
		{"emit doc.a2<=10;", []api.Token{token(api.TkWord, 0, "emit"), token(api.TkName, 5, "doc"), token(api.TkSign, 8, "."), token(api.TkName, 9, "a2"), token(api.TkSign, 11, "<="), number(13, "10", 10), token(api.TkSign, 15, ";"), token(api.TkEnd, 16, "")}},
		{`  "a\n" ==`, []api.Token{token(api.TkText, 2, "a\n"), token(api.TkSign, 8, "=="), token(api.TkEnd, 10, "")}},
		{"01", []api.Token{number(0, "0", 0), number(1, "1", 1), token(api.TkEnd, 2, "")}},
		{"", []api.Token{token(api.TkEnd, 0, "")}},
		{" \t\r\n", []api.Token{token(api.TkEnd, 4, "")}},
		{"===<=<==<", []api.Token{}},
		{"<<===", []api.Token{token(api.TkSign, 0, "<"), token(api.TkSign, 1, "<="), token(api.TkSign, 3, "=="), token(api.TkEnd, 5, "")}},
		{"-5--5", []api.Token{token(api.TkSign, 0, "-"), number(1, "5", 5), token(api.TkSign, 2, "-"), token(api.TkSign, 3, "-"), number(4, "5", 5), token(api.TkEnd, 5, "")}},
		{"5a 5in", []api.Token{number(0, "5", 5), token(api.TkName, 1, "a"), number(3, "5", 5), token(api.TkWord, 4, "in"), token(api.TkEnd, 6, "")}},
		{"inn nott emit2 i", []api.Token{token(api.TkName, 0, "inn"), token(api.TkName, 4, "nott"), token(api.TkName, 9, "emit2"), token(api.TkName, 15, "i"), token(api.TkEnd, 16, "")}},
		{"abcdefghijkl a12345678901", []api.Token{token(api.TkName, 0, "abcdefghijkl"), token(api.TkName, 13, "a12345678901"), token(api.TkEnd, 25, "")}},
		{`"""\u00e9"x`, []api.Token{token(api.TkText, 0, ""), token(api.TkText, 2, "é"), token(api.TkName, 10, "x"), token(api.TkEnd, 11, "")}},
		{"9223372036854775807", []api.Token{number(0, "9223372036854775807", math.MaxInt64), token(api.TkEnd, 19, "")}},
		{strings.Join(keywords, "\t"), nil}, {strings.Join(operators, " "), nil},
	} {
		want, wantAt, wantErr := x.want, 0, api.OK
		switch {
		case want == nil:
			at, kind := 0, api.TkSign
			list := operators
			if x.src[0] == 'e' {
				list, kind = keywords, api.TkWord
			}
			for _, s := range list {
				want = append(want, token(kind, at, s))
				at += len(s) + 1
			}
			want = append(want, token(api.TkEnd, len(x.src), ""))
		case len(want) == 0:
			wantAt, wantErr = 2, api.ErrLex
		}
		if l, at, err := vlex.Lex(x.src); !slices.Equal(l, want) || at != wantAt || err != wantErr {
			t.Errorf("Lex(%q) = %v %d %d, want %v", x.src, l, at, err, want)
		}
	}
}

// P22.1
func TestErrors(t *testing.T) {
	for _, x := range []struct {
		src string
		at  int
		err api.Errno
	}{
		{"a = 1", 2, api.ErrLex}, {"?", 0, api.ErrLex}, {"averylongname", 0, api.ErrLex}, {"a abcdefghijklm", 2, api.ErrLex}, {"a1234567890123", 0, api.ErrLex}, {"= =", 0, api.ErrLex}, {"a>b", 1, api.ErrLex}, {"a!=b", 1, api.ErrLex}, {"A", 0, api.ErrLex}, {"aB", 1, api.ErrLex}, {"a_b", 1, api.ErrLex}, {"é", 0, api.ErrLex}, {"a\x00", 1, api.ErrLex}, {"a\v", 1, api.ErrLex}, {"\xff", 0, api.ErrLex}, {"'a'", 0, api.ErrLex}, {"a/b", 1, api.ErrLex}, {"a:b", 1, api.ErrLex}, {"`", 0, api.ErrLex}, {"@", 0, api.ErrLex}, {"a|", 1, api.ErrLex}, {"a=", 1, api.ErrLex},
		{`"a`, 2, api.ErrShort}, {`a "`, 3, api.ErrShort}, {`"\x"`, 1, api.ErrForm}, {"\"a\n\"", 2, api.ErrForm}, {"  \"a\xff\"", 4, api.ErrUtf}, {`"\ud800"`, 1, api.ErrForm},
		{"1.5", 0, api.ErrNumber}, {"a+1.5", 2, api.ErrNumber}, {"1.x", 2, api.ErrForm}, {"1.", 2, api.ErrForm}, {"1e", 2, api.ErrForm}, {"1else", 2, api.ErrForm}, {"1e5", 0, api.ErrNumber}, {"9223372036854775808", 0, api.ErrNumber}, {" 1 .x 1.x", 8, api.ErrForm},
		{"? \"a", 0, api.ErrLex}, {"1.5 ?", 0, api.ErrNumber}, {"a ? 1.5", 2, api.ErrLex},
	} {
		if l, at, err := vlex.Lex(x.src); len(l) != 0 || at != x.at || err != x.err {
			t.Errorf("Lex(%q) = %v %d %d, want %d %d", x.src, l, at, err, x.at, x.err)
		}
	}
	most := strings.Repeat(" ", api.MaxSource-1) + "a"
	if l, at, err := vlex.Lex(most); len(l) != 2 || at != 0 || err != api.OK {
		t.Errorf("Lex of MaxSource bytes = %v %d %d", l, at, err)
	}
	if l, at, err := vlex.Lex("?" + most); len(l) != 0 || at != 0 || err != api.ErrLong {
		t.Errorf("Lex of MaxSource + 1 bytes = %v %d %d", l, at, err)
	}
}

// P22.1: every byte on its own, and after a name.
func TestEveryByte(t *testing.T) {
	for c := range 256 {
		b := string([]byte{byte(c)})
		l, at, err := vlex.Lex("a " + b)
		switch {
		case strings.Contains("\t\n\r ", b):
			if err != api.OK || len(l) != 2 || l[1].At != 3 {
				t.Errorf("Lex of byte %d = %v %d %d", c, l, at, err)
			}
		case b == `"`:
			if err != api.ErrShort || at != 3 {
				t.Errorf("Lex of byte %d = %v %d %d", c, l, at, err)
			}
		case strings.Contains("abcdefghijklmnopqrstuvwxyz0123456789;.,[](){}+-*<", b):
			if err != api.OK || len(l) != 3 || l[1].Text != b || l[1].At != 2 {
				t.Errorf("Lex of byte %d = %v %d %d", c, l, at, err)
			}
		default:
			if err != api.ErrLex || at != 2 || len(l) != 0 {
				t.Errorf("Lex of byte %d = %v %d %d", c, l, at, err)
			}
		}
	}
}

// P22.2
func TestNameAndWord(t *testing.T) {
	for _, s := range keywords {
		if vlex.Name(s) || !vlex.Word(s) {
			t.Errorf("Name, Word of %s = %v %v", s, vlex.Name(s), vlex.Word(s))
		}
	}
	for _, s := range []string{"a", "z", "doc", "id", "a0", "z9", "abcdefghijkl", "emi", "emits", "in2", "nul"} {
		if !vlex.Name(s) || vlex.Word(s) {
			t.Errorf("Name, Word of %s = %v %v", s, vlex.Name(s), vlex.Word(s))
		}
	}
	for _, s := range []string{"", "2a", "0", "A", "aA", "a_", "a-b", " a", "a ", "é", "aé", "a\xff", "abcdefghijklm", "IN", "==", "a{", "a`", "a/", "a:"} {
		if vlex.Name(s) || vlex.Word(s) {
			t.Errorf("Name, Word of %q = %v %v", s, vlex.Name(s), vlex.Word(s))
		}
	}
}

// P22.3
func TestConsequences(t *testing.T) {
	sources := []string{"", "emit doc.a,[1,\"x y\"];", "  if not(a==1){}", "1", "a", "in", "<", "= =", "\"", "5a", "for x in doc\n{emit\"é\",-3;}\t", ". . ;;"}
	for _, a := range sources {
		x, at, err := vlex.Lex(a)
		if err != api.OK {
			continue
		}
		for i, tok := range x[:len(x)-1] {
			part := a[tok.At:x[i+1].At]
			l, _, e := vlex.Lex(part)
			one := tok
			one.At = 0
			if e != api.OK || len(l) != 2 || l[0] != one {
				t.Errorf("Lex(%q) = %v %d %d", part, l, at, e)
			}
			if n, _, e := numeral.Read([]byte(part), 0); tok.Kind == api.TkInt && (e != api.OK || n != tok.N) {
				t.Errorf("the number of %q is %d", part, tok.N)
			}
			if s, _, e := quote.Read([]byte(part), 0); tok.Kind == api.TkText && (e != api.OK || s != tok.Text) {
				t.Errorf("the text of %q is %q", part, tok.Text)
			}
		}
		wide, _, _ := vlex.Lex("\n " + a + " \t")
		for i := range wide {
			if wide[i].At -= 2; wide[i].Kind == api.TkEnd {
				wide[i].At -= 2
			}
		}
		if !slices.Equal(wide, x) {
			t.Errorf("Lex of %q with white space around it = %v", a, wide)
		}
		for _, b := range sources {
			y, _, err := vlex.Lex(b)
			if err != api.OK {
				continue
			}
			want := slices.Clone(x[:len(x)-1])
			for _, tok := range y {
				tok.At += len(a) + 1
				want = append(want, tok)
			}
			if l, _, err := vlex.Lex(a + " " + b); err != api.OK || !slices.Equal(l, want) {
				t.Errorf("Lex(%q) = %v %d, want %v", a+" "+b, l, err, want)
			}
		}
	}
}
