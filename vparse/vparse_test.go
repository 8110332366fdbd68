package vparse_test

import (
	"strings"
	"testing"

	"davenport/api"
	"davenport/sample"
	"davenport/value"
	"davenport/vlex"
	"davenport/vparse"
)

func name(s string) api.Expr { return api.Expr{Kind: api.ExName, Name: s} }

func lit(v api.Value) api.Expr { return api.Expr{Kind: api.ExLit, Value: v} }

func num(n int64) api.Expr { return lit(value.Int(n)) }

func text(s string) api.Expr { return lit(api.Value{Kind: api.VText, S: s}) }

func op(kind int, kids ...api.Expr) api.Expr { return api.Expr{Kind: kind, Kids: kids} }

func path(x api.Expr, s string) api.Expr {
	return api.Expr{Kind: api.ExPath, Name: s, Kids: []api.Expr{x}}
}

func emit(a, b api.Expr) api.Stmt { return api.Stmt{Kind: api.StEmit, A: a, B: b} }

func when(a api.Expr, body []api.Stmt, other ...api.Stmt) api.Stmt {
	return api.Stmt{Kind: api.StIf, A: a, Body: body, Else: other}
}

func loop(s string, a api.Expr, body ...api.Stmt) api.Stmt {
	return api.Stmt{Kind: api.StFor, Name: s, A: a, Body: body}
}

func prog(l ...api.Stmt) api.Prog { return api.Prog{Body: l} }

var a, b, c, one = name("a"), name("b"), name("c"), num(1)

// P23.2, P23.3: programs, their canonical texts, and other texts of them.
func TestPrintAndParse(t *testing.T) {
	for _, x := range []struct {
		p      api.Prog
		text   string
		others []string
	}{
		{prog(), "", []string{" \n"}},
		{prog(emit(path(name("doc"), "a"), op(api.ExList, one, text("x")))), `emit doc.a,[1,"x"];`, []string{` emit doc . a , [ 1 , "x" ] ; `, `emit((doc).a),([(1),("\u0078")]);`}},
		{prog(when(op(api.ExAnd, op(api.ExNot, op(api.ExSame, a, one)), op(api.ExOr, b, c)), []api.Stmt{emit(path(one, "x"), num(0))})), "if not a==1 and(b or c){emit 1 .x,0;}", []string{"if not (a == 1) and (b or c) { emit (1).x, 0; } else { }", "if(not(a==1))and(b or c){emit(1).x,0;}else{}"}},
		{prog(loop("x", name("doc"), loop("y", name("x"), emit(op(api.ExSub, a, op(api.ExSub, b, c)), op(api.ExSub, op(api.ExSub, a, b), c))))), "for x in doc{for y in x{emit a-(b-c),a-b-c;}}", []string{"for x in (doc) { for y in x { emit a - (b - c), (a - b) - c; } }"}},
		{prog(when(a, nil), when(b, nil, emit(one, one)), when(c, []api.Stmt{emit(one, one)}, when(a, nil)), loop("a", a)), "if a{}if b{}else{emit 1,1;}if c{emit 1,1;}else{if a{}}for a in a{}", nil},
		{prog(emit(lit(value.Null()), lit(value.Bool(true))), emit(lit(value.Bool(false)), text("\n\"é"))), `emit null,true;emit false,"\n\"é";`, []string{`emit null,true;emit false,"\u000a\u0022\u00e9";`}},
		{prog(emit(op(api.ExList), op(api.ExList, op(api.ExList), op(api.ExOr, a, b), op(api.ExNot, c)))), "emit[],[[],a or b,not c];", []string{"emit [ ],[[],(a or b),(not c)];"}},
		{prog(emit(num(1<<62), num(0))), "emit 4611686018427387904,0;", nil},
		{prog(emit(op(api.ExOr, op(api.ExOr, a, b), c), op(api.ExOr, a, op(api.ExOr, b, c)))), "emit a or b or c,a or(b or c);", nil},
		{prog(emit(op(api.ExAnd, op(api.ExAnd, a, b), c), op(api.ExAnd, a, op(api.ExAnd, b, c)))), "emit a and b and c,a and(b and c);", nil},
		{prog(emit(op(api.ExOr, op(api.ExAnd, a, b), op(api.ExAnd, b, c)), op(api.ExAnd, op(api.ExOr, a, b), op(api.ExOr, b, c)))), "emit a and b or b and c,(a or b)and(b or c);", nil},
		{prog(emit(op(api.ExNot, op(api.ExNot, a)), op(api.ExNot, op(api.ExAnd, a, b)))), "emit not not a,not(a and b);", nil},
		{prog(emit(op(api.ExSame, op(api.ExNot, a), b), op(api.ExSame, a, op(api.ExNot, b)))), "emit(not a)==b,a==(not b);", nil},
		{prog(emit(op(api.ExLess, op(api.ExMost, a, b), c), op(api.ExLess, a, op(api.ExSame, b, c)))), "emit(a<=b)<c,a<(b==c);", nil},
		{prog(emit(op(api.ExSame, op(api.ExAdd, a, b), op(api.ExSub, b, c)), op(api.ExAdd, op(api.ExSame, a, b), c))), "emit a+b==b-c,(a==b)+c;", nil},
		{prog(emit(op(api.ExLess, op(api.ExAdd, a, b), op(api.ExSub, b, c)), op(api.ExMost, op(api.ExSub, a, b), op(api.ExAdd, b, c)))), "emit a+b<b-c,a-b<=b+c;", nil},
		{prog(emit(op(api.ExLess, op(api.ExSame, a, b), op(api.ExLess, b, c)), op(api.ExMost, op(api.ExLess, a, b), op(api.ExMost, b, c)))), "emit(a==b)<(b<c),(a<b)<=(b<=c);", nil},
		{prog(emit(op(api.ExSub, op(api.ExMul, a, b), op(api.ExMul, b, c)), op(api.ExSub, op(api.ExSub, a, b), op(api.ExMul, b, c)))), "emit a*b-b*c,a-b-b*c;", nil},
		{prog(emit(op(api.ExAdd, op(api.ExSub, a, b), c), op(api.ExSub, op(api.ExAdd, a, b), c))), "emit a-b+c,a+b-c;", nil},
		{prog(emit(op(api.ExMul, op(api.ExSub, a, b), op(api.ExMul, b, c)), op(api.ExMul, op(api.ExLess, a, b), op(api.ExAnd, b, c)))), "emit(a-b)*(b*c),(a<b)*(b and c);", nil},
		{prog(emit(op(api.ExSize, op(api.ExNot, a)), op(api.ExKind, op(api.ExAdd, a, op(api.ExSize, b))))), "emit size(not a),kind(a+size b);", nil},
		{prog(emit(op(api.ExAdd, op(api.ExMul, a, b), op(api.ExMul, b, c)), op(api.ExMul, op(api.ExAdd, a, b), op(api.ExSub, b, c)))), "emit a*b+b*c,(a+b)*(b-c);", nil},
		{prog(emit(op(api.ExMul, op(api.ExMul, a, b), c), op(api.ExMul, a, op(api.ExMul, b, c)))), "emit a*b*c,a*(b*c);", nil},
		{prog(emit(op(api.ExMul, op(api.ExSize, a), op(api.ExKind, b)), op(api.ExSize, op(api.ExMul, a, b)))), "emit size a*kind b,size(a*b);", nil},
		{prog(emit(op(api.ExSize, op(api.ExKind, path(path(a, "b"), "c"))), path(op(api.ExSize, a), "b"))), "emit size kind a.b.c,(size a).b;", []string{"emit size (kind ((a.b).c)),(size a).b;"}},
		{prog(emit(path(op(api.ExList, one), "a"), path(path(text("x"), "a"), "b"))), `emit[1].a,"x".a.b;`, nil},
		{prog(emit(op(api.ExNot, op(api.ExLess, one, num(2))), op(api.ExAnd, op(api.ExNot, a), op(api.ExNot, b)))), "emit not 1<2,not a and not b;", nil},
		{prog(emit(op(api.ExOr, one, num(2)), op(api.ExAnd, one, text("x")))), `emit 1 or 2,1 and"x";`, []string{`emit 1or 2,1and"x";`}},
		{prog(emit(op(api.ExAdd, op(api.ExAdd, a, one), op(api.ExAdd, b, one)), op(api.ExSub, a, op(api.ExAdd, b, c)))), "emit a+1+(b+1),a-(b+c);", nil},
	} {
		if s, err := vparse.Print(x.p); s != x.text || err != api.OK {
			t.Errorf("Print = %q %d, want %q", s, err, x.text)
		}
		if err := vparse.Check(x.p); err != api.OK {
			t.Errorf("Check of %s = %d", x.text, err)
		}
		for _, s := range append(x.others, x.text) {
			if p, at, err := vparse.Parse(s); !vparse.Same(p, x.p) || at != 0 || err != api.OK {
				t.Errorf("Parse(%q) = %v %d %d", s, p, at, err)
			}
		}
	}
}

// P23.3
func TestSyntaxErrors(t *testing.T) {
	for _, x := range []struct {
		src string
		at  int
	}{
		{"emit 1; emit 1, 2;", 6}, {"emit a < b < c, 1;", 11}, {"emit 1, 2 ; if x {", 18}, {"x", 0}, {"emit", 4}, {"emit  ", 6}, {"emit ,", 5}, {"emit 1", 6}, {"emit 1,", 7}, {"emit 1,;", 7}, {"emit 1,2", 8}, {"emit 1,2,", 8}, {"emit 1,2;}", 9}, {"emit 1,2;;", 9}, {"else{}", 0}, {"}", 0}, {"doc.a;", 0}, {"1", 0}, {`"a"`, 0}, {"in", 0},
		{"if", 2}, {"if{", 2}, {"if a", 4}, {"if a emit", 5}, {"if a{", 5}, {"if a{else", 5}, {"if a{}else", 10}, {"if a{}else if", 11}, {"if a{}else{}else", 12}, {"if a{};", 6}, {"if a{emit 1,2}", 13}, {"if a then", 5}, {"if a{]", 5},
		{"for", 3}, {"for x", 5}, {"for in x", 4}, {"for 1 in x", 4}, {`for "x" in y`, 4}, {"for x of", 6}, {"for x in{", 8}, {"for x in y", 10}, {"for x in y{", 11}, {"for x in y{}else", 12}, {"for x.y", 5}, {"for if in x", 4}, {"for(x", 3},
		{"emit -1,2;", 5}, {"emit +1", 5}, {"emit a b", 7}, {"emit a 1", 7}, {"emit 1 2", 7}, {"emit 01", 6}, {`emit a "x"`, 7}, {"emit a.1", 7}, {"emit a.size", 7}, {`emit a."b"`, 7}, {"emit a.", 7}, {"emit a..b", 7}, {"emit .a", 5}, {"emit a.(b)", 7}, {"emit a[1]", 6}, {"emit a(b)", 6}, {"emit (a", 7}, {"emit (a,", 7}, {"emit ()", 6}, {"emit (a]", 7}, {"emit [a", 7}, {"emit [a,]", 8}, {"emit [,", 6}, {"emit [a)", 7}, {"emit [a b", 8}, {"emit [", 6}, {"emit {", 5}, {"emit a)", 6},
		{"emit a and", 10}, {"emit and a", 5}, {"emit a or or", 10}, {"emit not", 8}, {"emit a not b", 7}, {"emit size", 9}, {"emit a size b", 7}, {"emit a == not b", 10}, {"emit a+not b", 7}, {"emit a*not b", 7}, {"emit size not a", 10}, {"emit a<b==c", 8}, {"emit a<=b<=c", 9}, {"emit a==b==c", 9}, {"emit not a==b==c", 13}, {"emit not(a)==(b)==c", 16}, {"emit a==b and b==c==d", 18}, {"emit a in b", 7}, {"emit a else", 7}, {"emit for", 5}, {"emit a*,", 7}, {"emit a+*b", 7}, {"emit a--b", 7}, {"emit a==-1", 8}, {"emit a < = b", -1},
	} {
		p, at, err := vparse.Parse(x.src)
		want := api.ErrSyntax
		if x.at < 0 {
			x.at, want = 9, api.ErrLex
		}
		if len(p.Body) != 0 || at != x.at || err != want {
			t.Errorf("Parse(%q) = %v %d %d, want %d", x.src, p, at, err, x.at)
		}
	}
}

// P23.3: the errors of the lexer are before all others.
func TestLexErrors(t *testing.T) {
	for _, s := range []string{"?", "emit 1; ?", "x x x 1.5", `emit "a`, strings.Repeat(" ", api.MaxSource+1), "emit averylongname,1;", "emit 1.x,0;", "} \"\xff\""} {
		_, wantAt, want := vlex.Lex(s)
		if p, at, err := vparse.Parse(s); len(p.Body) != 0 || at != wantAt || err != want || err == api.OK {
			t.Errorf("Parse(%.20q) = %v %d %d, want %d %d", s, p, at, err, wantAt, want)
		}
	}
}

// nested returns programs that are nested n deep in each way, and that are valid for n up to MaxNest.
func nested(n int) []api.Prog {
	kinds := []int{api.ExNot, api.ExSize, api.ExKind}
	var out []api.Prog
	for _, kind := range kinds {
		x := a
		for range n - 1 {
			x = op(kind, x)
		}
		out = append(out, prog(emit(x, one)), prog(emit(one, x)), prog(when(x, nil)), prog(loop("x", x)))
	}
	dots, left, right := a, a, a
	list, full, or := op(api.ExList), op(api.ExList, one), a
	for i := range n - 1 {
		dots, left, right, or = path(dots, "b"), op(api.ExSub, left, b), op(api.ExMul, b, right), op(api.ExOr, or, b)
		list = op(api.ExList, list)
		if i > 0 {
			full = op(api.ExList, full)
		}
	}
	if n == 1 {
		full = one
	}
	for _, x := range []api.Expr{dots, left, right, list, full, or} {
		out = append(out, prog(emit(x, one)))
	}
	branch, other, each, mixed := when(a, nil), when(a, nil), loop("x", a), emit(one, one)
	for range n - 1 {
		branch, other, each, mixed = when(a, []api.Stmt{branch}), when(a, nil, other), loop("x", a, each), when(a, []api.Stmt{emit(a, b)}, loop("y", a, nil...), mixed)
	}
	return append(out, prog(branch), prog(other), prog(emit(a, b), each), prog(mixed))
}

// P23.1, P23.3
func TestNesting(t *testing.T) {
	for n := 1; n <= api.MaxNest; n++ {
		for i, p := range nested(n) {
			s, err := vparse.Print(p)
			if err != api.OK || vparse.Check(p) != api.OK {
				t.Fatalf("Print of program %d, %d deep = %d", i, n, err)
			}
			if q, at, err := vparse.Parse(s); err != api.OK || at != 0 || !vparse.Same(p, q) {
				t.Fatalf("Parse(%s) = %d %d", s, at, err)
			}
		}
	}
	for _, n := range []int{api.MaxNest + 1, 40} {
		for i, p := range nested(n) {
			if s, err := vparse.Print(p); err != api.ErrProg || s != "" || vparse.Check(p) != api.ErrProg {
				t.Errorf("Print of program %d, %d deep = %q %d", i, n, s, err)
			}
		}
	}
	for _, s := range []string{
		"emit " + strings.Repeat("not ", 12) + "a, 1;", "emit a" + strings.Repeat(".b", 12) + ",1;", "emit a" + strings.Repeat("+b", 12) + ",1;", "emit " + strings.Repeat("[", 13) + strings.Repeat("]", 13) + ",1;", "if size " + strings.Repeat("kind ", 11) + "a{}",
		strings.Repeat("if a{", 13) + strings.Repeat("}", 13), strings.Repeat("if a{}else{", 12) + "if a{}" + strings.Repeat("}", 12), strings.Repeat("for x in a{", 13) + strings.Repeat("}", 13), strings.Repeat("for x in a{", 12) + "emit 1,1;" + strings.Repeat("}", 12),
	} {
		if p, at, err := vparse.Parse(s); len(p.Body) != 0 || at != 0 || err != api.ErrNest {
			t.Errorf("Parse(%s) = %v %d %d", s, p, at, err)
		}
	}
	// A syntax error counts more than the nesting, and parentheses do not nest.
	if _, at, err := vparse.Parse("emit " + strings.Repeat("not ", 12) + "a, 1"); at != 57 || err != api.ErrSyntax {
		t.Errorf("Parse of a deep and broken program = %d %d", at, err)
	}
	if p, _, err := vparse.Parse("emit " + strings.Repeat("(", 100) + "a" + strings.Repeat(")", 100) + ",1;"); err != api.OK || !vparse.Same(p, prog(emit(a, one))) {
		t.Errorf("Parse of many parentheses = %v %d", p, err)
	}
}

func wrongExprs() []api.Expr {
	with := func(x api.Expr, change func(*api.Expr)) api.Expr {
		change(&x)
		return x
	}
	out := []api.Expr{
		{}, {Kind: -1}, {Kind: 16}, {Kind: api.ExLit}, num(-1), lit(api.Value{Kind: api.VList}), lit(api.Value{Kind: api.VObject}), text("\xff"), lit(api.Value{Kind: api.VBool, N: 2}),
		name(""), name("in"), name("A"), name("abcdefghijklm"), {Kind: api.ExName}, path(a, ""), path(a, "size"), op(api.ExPath), {Kind: api.ExPath, Name: "a"}, {Kind: api.ExPath, Name: "a", Kids: []api.Expr{a, b}},
		op(api.ExNot), op(api.ExNot, a, b), op(api.ExSize), op(api.ExKind, a, b), op(api.ExNot, api.Expr{}), op(api.ExList, a, api.Expr{}),
		with(one, func(x *api.Expr) { x.Name = "a" }), with(one, func(x *api.Expr) { x.Kids = []api.Expr{a} }), with(a, func(x *api.Expr) { x.Kids = []api.Expr{a} }), with(a, func(x *api.Expr) { x.Value = value.Null() }), with(path(a, "b"), func(x *api.Expr) { x.Value.N = 1 }), with(op(api.ExList), func(x *api.Expr) { x.Name = "a" }), with(op(api.ExList), func(x *api.Expr) { x.Value.S = "a" }), with(op(api.ExNot, a), func(x *api.Expr) { x.Name = "a" }), with(op(api.ExNot, a), func(x *api.Expr) { x.Value.Kids = []api.Value{{}} }), with(op(api.ExAdd, a, b), func(x *api.Expr) { x.Value.Keys = []string{"a"} }),
	}
	for kind := api.ExMul; kind <= api.ExOr; kind++ {
		out = append(out, op(kind), op(kind, a), op(kind, a, b, c), op(kind, a, api.Expr{}), op(kind, api.Expr{}, a), with(op(kind, a, b), func(x *api.Expr) { x.Name = "a" }))
	}
	return out
}

// P23.1, P23.2
func TestCheckOfInvalidPrograms(t *testing.T) {
	var wrong []api.Prog
	for _, x := range wrongExprs() {
		wrong = append(wrong, prog(emit(x, a)), prog(emit(a, x)), prog(when(x, nil)), prog(loop("x", x)), prog(emit(a, b), when(a, nil, when(a, []api.Stmt{emit(op(api.ExNot, x), b)}))))
	}
	with := func(s api.Stmt, change func(*api.Stmt)) api.Prog {
		change(&s)
		return prog(emit(a, b), s)
	}
	body := []api.Stmt{emit(a, b)}
	wrong = append(wrong,
		prog(api.Stmt{}), prog(api.Stmt{Kind: 4, A: a, B: b}), prog(api.Stmt{Kind: -1, A: a}),
		with(emit(a, b), func(s *api.Stmt) { s.Name = "x" }), with(emit(a, b), func(s *api.Stmt) { s.Body = body }), with(emit(a, b), func(s *api.Stmt) { s.Else = body }),
		with(when(a, body), func(s *api.Stmt) { s.Name = "x" }), with(when(a, body), func(s *api.Stmt) { s.B = b }), with(when(a, body), func(s *api.Stmt) { s.B.Name = "b" }), with(when(a, body), func(s *api.Stmt) { s.B.Value.N = 1 }), with(when(a, body), func(s *api.Stmt) { s.B.Kids = []api.Expr{a} }), with(when(a, body), func(s *api.Stmt) { s.Body = []api.Stmt{{}} }), with(when(a, body), func(s *api.Stmt) { s.Else = []api.Stmt{{}} }),
		with(loop("x", a), func(s *api.Stmt) { s.Name = "" }), with(loop("x", a), func(s *api.Stmt) { s.Name = "in" }), with(loop("x", a), func(s *api.Stmt) { s.Name = "X" }), with(loop("x", a), func(s *api.Stmt) { s.B = b }), with(loop("x", a), func(s *api.Stmt) { s.Else = body }), with(loop("x", a), func(s *api.Stmt) { s.Body = []api.Stmt{{}} }),
	)
	for i, p := range wrong {
		if err := vparse.Check(p); err != api.ErrProg {
			t.Errorf("Check of wrong program %d %v = %d", i, p, err)
		}
		if s, err := vparse.Print(p); s != "" || err != api.ErrProg {
			t.Errorf("Print of wrong program %d = %q %d", i, s, err)
		}
		if !vparse.Same(p, p) || vparse.Same(p, prog()) {
			t.Errorf("Same of wrong program %d", i)
		}
	}
}

// P23.1: programs that differ in one field.
func TestSame(t *testing.T) {
	base := func() api.Prog {
		return prog(when(op(api.ExAdd, path(a, "b"), one), []api.Stmt{emit(a, text("x"))}, loop("x", a, emit(lit(api.Value{Kind: api.VObject, Keys: []string{"k"}, Kids: []api.Value{value.Null()}}), b))))
	}
	changes := []func(p *api.Prog){
		func(p *api.Prog) { p.Body = append(p.Body, emit(a, b)) }, func(p *api.Prog) { p.Body = nil }, func(p *api.Prog) { p.Body[0].Kind++ }, func(p *api.Prog) { p.Body[0].Name = "y" }, func(p *api.Prog) { p.Body[0].A.Kind++ }, func(p *api.Prog) { p.Body[0].A.Name = "z" },
		func(p *api.Prog) { p.Body[0].A.Kids[0].Name = "c" }, func(p *api.Prog) { p.Body[0].A.Kids[1].Value.N = 2 }, func(p *api.Prog) { p.Body[0].A.Kids = p.Body[0].A.Kids[:1] }, func(p *api.Prog) { p.Body[0].B = a }, func(p *api.Prog) { p.Body[0].Body[0].B.Value.S = "y" }, func(p *api.Prog) { p.Body[0].Body = nil }, func(p *api.Prog) { p.Body[0].Else[0].Name = "y" }, func(p *api.Prog) { p.Body[0].Else = nil }, func(p *api.Prog) { p.Body[0].Else[0].Body[0].A.Value.Keys[0] = "l" }, func(p *api.Prog) { p.Body[0].Else[0].Body[0].A.Value.Kids[0].Kind++ }, func(p *api.Prog) { p.Body[0].Else[0].Body[0].A.Value.Kind++ },
	}
	for i, change := range changes {
		p := base()
		change(&p)
		if vparse.Same(p, base()) || vparse.Same(base(), p) || !vparse.Same(p, p) {
			t.Errorf("Same after change %d", i)
		}
	}
	empty := api.Prog{Body: []api.Stmt{}}
	if !vparse.Same(empty, api.Prog{}) || !vparse.Same(base(), base()) {
		t.Error("Same of equal programs")
	}
}

// someExpr returns an expression of at most a depth.
func someExpr(s *sample.Source, depth int) api.Expr {
	names := []string{"a", "b2", "doc", "id", "x"}
	if depth <= 1 || s.Below(4) == 0 {
		switch s.Below(5) {
		case 0:
			return num(int64(s.Bits() >> (1 + s.Below(63))))
		case 1:
			return text(s.Text())
		case 2:
			return lit(value.Bool(s.Below(2) == 0))
		case 3:
			return lit(value.Null())
		}
		return name(names[s.Below(5)])
	}
	kid := func() api.Expr { return someExpr(s, depth-1) }
	switch kind := api.ExPath + s.Below(13); kind {
	case api.ExPath:
		return path(kid(), names[s.Below(5)])
	case api.ExList:
		x := op(kind)
		for range s.Below(3) {
			x.Kids = append(x.Kids, kid())
		}
		return x
	case api.ExNot, api.ExSize, api.ExKind:
		return op(kind, kid())
	default:
		return op(kind, kid(), kid())
	}
}

func someStmt(s *sample.Source, depth int) api.Stmt {
	var body, other []api.Stmt
	for range s.Below(3) {
		if depth > 1 {
			body, other = append(body, someStmt(s, depth-1)), append(other, someStmt(s, depth-1))
		}
	}
	switch s.Below(4) {
	case 0:
		return loop("x", someExpr(s, 3), body...)
	case 1:
		return when(someExpr(s, 3), body, other...)
	}
	return emit(someExpr(s, 4), someExpr(s, 3))
}

// P23.4
func TestConsequences(t *testing.T) {
	random := sample.New(23)
	before, beforeText := prog(), ""
	for range 3000 {
		p := prog()
		for range random.Below(3) {
			p.Body = append(p.Body, someStmt(random, 3))
		}
		s, err := vparse.Print(p)
		if err == api.ErrLong {
			continue
		}
		q, at, e := vparse.Parse(s)
		if err != api.OK || e != api.OK || at != 0 || !vparse.Same(p, q) {
			t.Fatalf("Parse(%q) = %d %d, printed with %d", s, at, e, err)
		}
		// White space between tokens, and parentheses around operands, change nothing.
		tokens, _, _ := vlex.Lex(s)
		wide := ""
		for i, tok := range tokens[:len(tokens)-1] {
			wide += " " + strings.TrimRight(s[tok.At:tokens[i+1].At], " ") + "\n"
		}
		if len(wide) <= api.MaxSource {
			if q, _, err := vparse.Parse(wide); err != api.OK || !vparse.Same(p, q) {
				t.Fatalf("Parse(%q) = %d", wide, err)
			}
		}
		both := api.Prog{Body: append(before.Body[:len(before.Body):len(before.Body)], p.Body...)}
		if joined, err := vparse.Print(both); len(beforeText)+len(s) <= api.MaxSource && (joined != beforeText+s || err != api.OK) {
			t.Fatalf("Print of two programs = %q, want %q", joined, beforeText+s)
		}
		before, beforeText = p, s
	}
}

// P23.2: the limit of a text, and a source that is shorter than its canonical text.
func TestLimit(t *testing.T) {
	p := prog()
	for range 56 {
		p.Body = append(p.Body, emit(num(1), num(2)))
	}
	p.Body[0].A = name("abcdefghi") // 56 * 9 bytes, and 8 more
	s, err := vparse.Print(p)
	if len(s) != api.MaxSource || err != api.OK {
		t.Errorf("Print of MaxSource bytes = %d bytes, %d", len(s), err)
	}
	p.Body[0].A = name("abcdefghij")
	if s, err := vparse.Print(p); s != "" || err != api.ErrLong {
		t.Errorf("Print of MaxSource + 1 bytes = %d bytes, %d", len(s), err)
	}
	short := "emit 1or 2," + strings.Repeat("1or ", 2) + "1;"
	q, _, err := vparse.Parse(short)
	long, _ := vparse.Print(q)
	if err != api.OK || len(long) <= len(short) {
		t.Errorf("Print of %q = %q", short, long)
	}
	wide := "if a{" + strings.Repeat("emit 1or 1,1;", 38) + "}"
	if q, _, err := vparse.Parse(wide); err != api.OK {
		t.Errorf("Parse of %d bytes = %d", len(wide), err)
	} else if s, err := vparse.Print(q); s != "" || err != api.ErrLong {
		t.Errorf("Print of a parsed program that is too long = %d bytes, %d", len(s), err)
	}
}
