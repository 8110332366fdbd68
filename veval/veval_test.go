package veval_test

import (
	"math"
	"math/big"
	"slices"
	"strings"
	"testing"

	"davenport/api"
	"davenport/collate"
	"davenport/keycode"
	"davenport/parse"
	"davenport/print"
	"davenport/sample"
	"davenport/value"
	"davenport/veval"
	"davenport/vparse"
)

func read(t *testing.T, text string) api.Value {
	t.Helper()
	v, at, err := parse.Parse([]byte(text))
	if err != api.OK {
		t.Fatalf("%s: %d %d", text, at, err)
	}
	return v
}

func show(v api.Value, ok bool) string {
	if !ok {
		if v.Kind != 0 || v.S != "" || v.N != 0 || len(v.Kids)+len(v.Keys) > 0 {
			return "not zero"
		}
		return "none"
	}
	s, _ := print.Print(v)
	return s
}

func program(t *testing.T, src string) api.Prog {
	t.Helper()
	p, at, err := vparse.Parse(src)
	if err != api.OK {
		t.Fatalf("%s: %d %d", src, at, err)
	}
	return p
}

func expression(t *testing.T, src string) api.Expr {
	t.Helper()
	return program(t, "if "+src+"{}").Body[0].A
}

func environment(t *testing.T) []api.Bind {
	deep := sample.Nest(8)
	return []api.Bind{{Name: "n", Value: value.Int(99)}, {Name: "n", Value: value.Int(3)}, {Name: "o", Value: read(t, `{"a":5,"b2":{"c":[1,2]},"z":null}`)}, {Name: "l", Value: read(t, `[1,"x",[]]`)}, {Name: "s", Value: read(t, `"äb"`)}, {Name: "min", Value: value.Int(math.MinInt64)}, {Name: "max", Value: value.Int(math.MaxInt64)}, {Name: "d", Value: deep}, {Name: "w", Value: sample.Wide(255)}, {Name: "t", Value: value.Bool(true)}, {Name: "f", Value: value.Bool(false)}, {Name: "u", Value: value.Null()}}
}

// P25.1
func TestEval(t *testing.T) {
	for _, x := range []struct{ src, want string }{
		{"n+1", "4"}, {"o.a*n", "15"}, {"o.b", "none"}, {"n.a", "none"}, {"9223372036854775807+1", "none"}, {"false and 1", "false"}, {"1 and false", "none"}, {"true and 1", "none"}, {"not n", "none"}, {`size "ä"`, "1"}, {"size[n,o]", "2"}, {"kind o", `"object"`}, {"n==3", "true"}, {`"a"<["a"]`, "true"},
		{"5", "5"}, {`"x"`, `"x"`}, {"true", "true"}, {"false", "false"}, {"null", "null"}, {"n", "3"}, {"missing", "none"}, {"u", "null"},
		{"o.b2.c", "[1,2]"}, {"o.z", "null"}, {"o.z.a", "none"}, {"o.a.b", "none"}, {"l.a", "none"}, {"s.a", "none"}, {"missing.a", "none"}, {"o.missing.a", "none"}, {"o.aa", "none"},
		{"[]", "[]"}, {"[n,[s],u]", `[3,["äb"],null]`}, {"[n,missing]", "none"}, {"[o.b,1]", "none"}, {"[d]", "none"}, {"[d,1]", "none"}, {"[w]", "[" + show(sample.Wide(255), true) + "]"}, {"[w,1]", "none"}, {"size[w]", "1"}, {"size[w,w]", "none"},
		{"not true", "false"}, {"not f", "true"}, {"not u", "none"}, {"not missing", "none"}, {"not not t", "true"}, {"not 0", "none"},
		{"true and true", "true"}, {"t and f", "false"}, {"f and t", "false"}, {"f and f", "false"}, {"f and missing", "false"}, {"t and missing", "none"}, {"missing and f", "none"}, {"t and u", "none"}, {"u and t", "none"}, {"n and t", "none"},
		{"t or missing", "true"}, {"t or 1", "true"}, {"f or t", "true"}, {"t or f", "true"}, {"f or f", "false"}, {"f or missing", "none"}, {"f or 1", "none"}, {"missing or t", "none"}, {"1 or t", "none"}, {"u or t", "none"},
		{`size ""`, "0"}, {"size s", "2"}, {"size l", "3"}, {"size o", "3"}, {"size[]", "0"}, {"size n", "none"}, {"size u", "none"}, {"size t", "none"}, {"size missing", "none"}, {"size d", "1"},
		{"kind u", `"null"`}, {"kind t", `"bool"`}, {"kind f", `"bool"`}, {"kind n", `"int"`}, {"kind s", `"text"`}, {"kind l", `"list"`}, {"kind missing", "none"}, {"kind kind n", `"text"`},
		{"max+0", "9223372036854775807"}, {"max+1", "none"}, {"max+min", "-1"}, {"min+max", "-1"}, {"min+min", "none"}, {"min-1", "none"}, {"min-0", "-9223372036854775808"}, {"max-max", "0"}, {"max-min", "none"}, {"0-max", "-9223372036854775807"}, {"0-min", "none"}, {"min-min", "0"}, {"0-1-min", "9223372036854775807"},
		{"max*1", "9223372036854775807"}, {"max*2", "none"}, {"min*1", "-9223372036854775808"}, {"min*(0-1)", "none"}, {"(0-1)*min", "none"}, {"max*(0-1)", "-9223372036854775807"}, {"min*0", "0"}, {"0*min", "0"}, {"4294967296*2147483648", "none"}, {"4294967296*(0-2147483648)", "-9223372036854775808"}, {"3037000500*3037000500", "none"}, {"3037000499*3037000499", "9223372030926249001"},
		{"n+s", "none"}, {"s+s", "none"}, {"t+1", "none"}, {"1-u", "none"}, {"l*2", "none"}, {"1+missing", "none"}, {"missing*0", "none"}, {"missing-1", "none"},
		{"n==n", "true"}, {`n=="3"`, "false"}, {"l==[1,\"x\",[]]", "true"}, {"o==l", "false"}, {"t==1", "false"}, {"u==null", "true"}, {"missing==missing", "none"}, {"1==missing", "none"}, {"o==o", "true"}, {"f==f", "true"}, {"t==f", "false"},
		{"1<2", "true"}, {"2<2", "false"}, {"3<2", "false"}, {"1<=2", "true"}, {"2<=2", "true"}, {"3<=2", "false"}, {"u<f", "true"}, {"f<t", "true"}, {"t<min", "true"}, {`max<""`, "true"}, {`"z"<[]`, "true"}, {"l<o", "true"}, {"o<=l", "false"}, {`"a"<="a"`, "true"}, {"1<missing", "none"}, {"missing<=1", "none"}, {"[1]<[1,0]", "true"},
	} {
		if v, ok := veval.Eval(expression(t, x.src), environment(t)); show(v, ok) != x.want {
			t.Errorf("Eval(%s) = %s, want %s", x.src, show(v, ok), x.want)
		}
	}
}

// P25.1
func TestEvalOfWhatIsInvalid(t *testing.T) {
	deep := api.Expr{Kind: api.ExName, Name: "n"}
	for range api.MaxNest - 1 {
		deep = api.Expr{Kind: api.ExList, Kids: []api.Expr{deep}}
	}
	env := []api.Bind{{Name: "n", Value: value.Int(3)}}
	null := api.Expr{Kind: api.ExLit, Value: value.Null()}
	for i, x := range []api.Expr{
		{}, {Kind: -1}, {Kind: 16}, {Kind: math.MaxInt}, {Kind: api.ExLit}, {Kind: api.ExLit, Value: value.Int(-1)}, {Kind: api.ExLit, Value: sample.Nest(1)}, {Kind: api.ExName}, {Kind: api.ExName, Name: "in"}, {Kind: api.ExPath, Name: "a"}, {Kind: api.ExNot}, {Kind: api.ExAdd, Kids: []api.Expr{null}}, {Kind: api.ExSame, Kids: []api.Expr{null, null, null}}, {Kind: api.ExName, Name: "n", Kids: []api.Expr{null}}, {Kind: api.ExLit, Value: value.Null(), Name: "n"}, {Kind: api.ExList, Kids: []api.Expr{deep}}, {Kind: api.ExOr, Kids: []api.Expr{{Kind: api.ExLit, Value: value.Bool(true)}, {}}},
	} {
		if v, ok := veval.Eval(x, env); show(v, ok) != "none" {
			t.Errorf("Eval of wrong expression %d = %s", i, show(v, ok))
		}
	}
	for i, v := range sample.Wrong() {
		for _, e := range [][]api.Bind{{{Name: "x", Value: v}}, {{Name: "n", Value: v}, env[0]}, {env[0], {Name: "y", Value: v}}} {
			if got, ok := veval.Eval(null, e); show(got, ok) != "none" {
				t.Errorf("Eval with wrong value %d = %s", i, show(got, ok))
			}
		}
	}
	if v, ok := veval.Eval(null, nil); show(v, ok) != "null" {
		t.Errorf("Eval without bindings = %s", show(v, ok))
	}
}

// P25.1: arithmetic against numbers of any length.
func TestArithmetic(t *testing.T) {
	random := sample.New(25)
	for range 3000 {
		a, b := random.Int(), random.Int()
		env := []api.Bind{{Name: "a", Value: value.Int(a)}, {Name: "b", Value: value.Int(b)}}
		x, y := big.NewInt(a), big.NewInt(b)
		for src, want := range map[string]*big.Int{"a+b": new(big.Int).Add(x, y), "a-b": new(big.Int).Sub(x, y), "a*b": new(big.Int).Mul(x, y)} {
			text := "none"
			if want.IsInt64() {
				text = want.String()
			}
			if v, ok := veval.Eval(expression(t, src), env); show(v, ok) != text {
				t.Fatalf("%s with %d and %d = %s, want %s", src, a, b, show(v, ok), text)
			}
		}
	}
}

func emitted(l []api.Emit) string {
	var out []string
	for _, e := range l {
		out = append(out, show(e.Key, true)+" "+show(e.Value, true))
	}
	return strings.Join(out, "; ")
}

// P25.2
func TestMap(t *testing.T) {
	for _, x := range []struct{ src, body, want string }{
		{"emit id,doc.v;emit doc.w,1;", `{"t":["x","y"],"v":7}`, `"a" 7`},
		{`for x in doc.t{if x=="y"{emit [x,id],1;}else{emit x,null;}}`, `{"t":["x","y"],"v":7}`, `"x" null; ["y","a"] 1`},
		{"for x in doc{emit kind x,1;}", `{"t":["x","y"],"v":7}`, `"list" 1; "int" 1`},
		{"", "1", ""}, {"emit doc,id;", "null", `null "a"`}, {"emit x,1;emit 1,x;emit 2,2;", "1", "2 2"},
		{"if doc{emit 1,1;}else{emit 2,2;}", "true", "1 1"}, {"if doc{emit 1,1;}else{emit 2,2;}", "false", "2 2"}, {"if doc{emit 1,1;}else{emit 2,2;}", "1", ""}, {"if doc{emit 1,1;}else{emit 2,2;}", "null", ""}, {"if x{emit 1,1;}else{emit 2,2;}emit 3,3;", "1", "3 3"}, {"if doc{emit 1,1;}emit 3,3;", "false", "3 3"},
		{"for x in doc{emit x,x;}", `[3,"y",[]]`, `3 3; "y" "y"; [] []`}, {"for x in doc{emit x,x;}", `{"b":1,"a":2}`, "2 2; 1 1"}, {"for x in doc{emit x,x;}", `"abc"`, ""}, {"for x in doc{emit x,x;}", "[]", ""}, {"for x in y{emit x,x;}emit 1,1;", "5", "1 1"},
		{"for x in doc{for y in x{emit y,x;}}emit x,1;", "[[1],5,[2,3]]", "1 [1]; 2 [2,3]; 3 [2,3]"}, {"for x in doc{for x in x{emit x,0;}emit x,1;}", "[[1,2]]", "1 0; 2 0; [1,2] 1"}, {"for doc in doc{emit doc,id;}emit doc,2;", "[1]", `1 "a"; [1] 2`}, {"for id in doc{emit id,1;}", "[7]", "7 1"},
		{"emit 1,1;emit 2,2;emit 3,3;emit 4,4;emit 5,5;", "1", "1 1; 2 2; 3 3; 4 4"}, {"emit x,1;emit 1,1;emit 2,2;emit 1,x;emit 3,3;emit 4,4;emit 5,5;", "1", "1 1; 2 2; 3 3; 4 4"}, {"for x in doc{emit x,x;}emit 9,9;", "[1,2,3,4,5,6]", "1 1; 2 2; 3 3; 4 4"}, {"emit 1,1;emit 1,1;", "1", "1 1; 1 1"},
	} {
		l, err := veval.Map(program(t, x.src), "a", read(t, x.body))
		if emitted(l) != x.want || err != api.OK {
			t.Errorf("Map(%s) of %s = %s %d, want %s", x.src, x.body, emitted(l), err, x.want)
		}
	}
}

// P25.2: keys and values that are just short enough, and one byte longer.
func TestLimitsOfEmits(t *testing.T) {
	text := func(n int) string { return `"` + strings.Repeat("x", n) + `"` }
	for _, x := range []struct{ src, body, want string }{
		{"emit doc,1;", text(api.MaxCode - 3), text(api.MaxCode-3) + " 1"}, {"emit doc,1;", text(api.MaxCode - 2), ""}, {"emit[doc],1;", text(api.MaxCode - 5), "[" + text(api.MaxCode-5) + "] 1"}, {"emit[doc],1;", text(api.MaxCode - 4), ""}, {"emit doc,1;", `"` + strings.Repeat(`\u0000`, 43) + `"`, `"` + strings.Repeat(`\u0000`, 43) + `" 1`}, {"emit doc,1;", `"` + strings.Repeat(`\u0000`, 44) + `"`, ""},
		{"emit 1,doc;", text(api.MaxVal - 2), "1 " + text(api.MaxVal-2)}, {"emit 1,doc;", text(api.MaxVal - 1), ""}, {"emit 1,doc;", `"` + strings.Repeat(`\n`, 49) + `"`, `1 "` + strings.Repeat(`\n`, 49) + `"`}, {"emit 1,doc;", `"` + strings.Repeat(`\n`, 50) + `"`, ""},
		{"emit doc,1;emit 1,doc;emit 1,1;", text(200), "1 1"}, {"emit doc,1;emit doc,1;emit doc,1;emit doc,1;emit 1,1;", text(200), "1 1"},
	} {
		l, err := veval.Map(program(t, x.src), "a", read(t, x.body))
		if emitted(l) != x.want || err != api.OK {
			t.Errorf("Map(%s) of %.20s = %s %d", x.src, x.body, emitted(l), err)
		}
	}
}

// P25.2: the passes of a whole run are counted, those of inner and of later loops too.
func TestPasses(t *testing.T) {
	wide := func(n int) string { return "[" + strings.Repeat("0,", n-1) + "1]" }
	for _, x := range []struct{ src, body, want string }{
		{"for x in doc{if x==1{emit 1,1;}}for x in[5]{emit 2,x;}", wide(255), "1 1; 2 5"},
		{"for x in doc.a{if x==1{emit 1,1;}}for x in doc.b{emit 2,x;}", `{"a":` + wide(200) + `,"b":` + wide(50) + "}", "1 1; 2 0; 2 0; 2 0"},
		{"for x in[1]{for y in doc{if y==1{emit 1,1;}}}for x in[5]{emit 2,x;}emit 3,3;", wide(255), "1 1; 3 3"},
		{"for x in[1,2]{for y in doc{if y==1{emit 1,x;}}}emit 3,3;", wide(255), "1 1; 3 3"},
		{"for x in[1,2]{for y in doc{if y==1{emit y,x;}}}", wide(127), "1 1; 1 2"},
		{"for x in[1,2]{for y in doc{if y==1{emit y,x;}}}", wide(128), "1 1"},
		{"for x in[1]{for y in doc{}}for x in doc{emit 1,1;}", wide(255), ""},
		{"for x in doc{}for x in[7,8]{emit x,1;}", wide(255), "7 1"},
	} {
		l, err := veval.Map(program(t, x.src), "a", read(t, x.body))
		if emitted(l) != x.want || err != api.OK {
			t.Errorf("Map(%s) of %d bytes = %s %d, want %s", x.src, len(x.body), emitted(l), err, x.want)
		}
	}
}

// P25.2
func TestMapErrors(t *testing.T) {
	right := program(t, "emit id,doc;")
	wrong := api.Prog{Body: []api.Stmt{{}}}
	for _, x := range []struct {
		p    api.Prog
		id   string
		body api.Value
		err  api.Errno
	}{
		{wrong, "A", api.Value{}, api.ErrProg}, {wrong, "a", value.Null(), api.ErrProg}, {right, "A", api.Value{}, api.ErrId}, {right, "", value.Null(), api.ErrId}, {right, "a", api.Value{}, api.ErrValue}, {right, "a", sample.Nest(9), api.ErrValue}, {api.Prog{}, "a", api.Value{}, api.ErrValue},
	} {
		if l, err := veval.Map(x.p, x.id, x.body); len(l) != 0 || err != x.err {
			t.Errorf("Map = %v %d, want %d", l, err, x.err)
		}
	}
}

// P25.3
func TestConsequences(t *testing.T) {
	random := sample.New(26)
	sources := []string{"emit doc,id;", "for x in doc{emit x,x;}", "for x in doc{for y in x{emit[y,x],size x;}}", "emit[doc,doc],doc;", "if doc==doc{emit kind doc,doc;}else{emit 1,1;}", "for x in doc{if x<doc{emit x,1;}}"}
	for _, body := range random.Values(150) {
		for i, src := range sources {
			l, err := veval.Map(program(t, src), "a-1", body)
			if err != api.OK || len(l) > api.MaxEmits {
				t.Fatalf("Map(%s) = %v %d", src, l, err)
			}
			for _, e := range l {
				code, keyErr := keycode.Encode(e.Key)
				size, sizeErr := print.Size(e.Value)
				if keyErr != api.OK || sizeErr != api.OK || len(code) > api.MaxCode || size > api.MaxVal {
					t.Fatalf("Map(%s) of %s emits %v", src, show(body, true), e)
				}
			}
			more, _ := veval.Map(program(t, src+sources[(i+1)%len(sources)]), "a-1", body)
			if len(more) < len(l) || emitted(more[:len(l)]) != emitted(l) {
				t.Fatalf("with more statements %s emits %s, without %s", src, emitted(more), emitted(l))
			}
			renamed, _ := veval.Map(program(t, strings.NewReplacer("for x", "for q", "x", "q").Replace(src)), "a-1", body)
			if emitted(renamed) != emitted(l) {
				t.Fatalf("with another name %s emits %s", src, emitted(renamed))
			}
		}
		other := random.Value(2)
		env := []api.Bind{{Name: "a", Value: body}, {Name: "b", Value: other}}
		var truths []bool
		for _, src := range []string{"a<b", "a==b", "b<a"} {
			v, ok := veval.Eval(expression(t, src), env)
			if !ok {
				t.Fatalf("%s is none", src)
			}
			truths = append(truths, v.N == 1)
		}
		n, _ := collate.Compare(body, other)
		if !slices.Equal(truths, []bool{n < 0, n == 0, n > 0}) {
			t.Fatalf("%s and %s compare as %v", show(body, true), show(other, true), truths)
		}
	}
}
