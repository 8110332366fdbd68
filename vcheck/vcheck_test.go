package vcheck_test

import (
	"slices"
	"strings"
	"testing"

	"davenport/api"
	"davenport/vcheck"
	"davenport/vparse"
)

var programs = []struct {
	src   string
	err   api.Errno
	free  string
	loops int
}{
	{"", api.OK, "", 0}, {"emit 1,2;", api.OK, "", 0}, {"emit id,doc.v;", api.OK, "doc id", 0}, {"emit doc.x,id.y;", api.OK, "doc id", 0}, {"emit[1,[doc,id]],not doc==size id;", api.OK, "doc id", 0},
	{"emit x,1;", api.ErrUnbound, "x", 0}, {"emit 1,x;", api.ErrUnbound, "x", 0}, {"emit z,[y,x.a+y];", api.ErrUnbound, "x y z", 0}, {"emit docs,id;", api.ErrUnbound, "docs id", 0}, {"if x{}", api.ErrUnbound, "x", 0}, {"if doc{emit x,1;}", api.ErrUnbound, "doc x", 0}, {"if doc{}else{emit x,1;}", api.ErrUnbound, "doc x", 0},
	{"for x in doc{}", api.OK, "doc", 1}, {"for x in doc{emit x,[x,id];}", api.OK, "doc id", 1}, {"for x in doc{emit x,y;}", api.ErrUnbound, "doc y", 1}, {"for x in x{}", api.ErrUnbound, "x", 1}, {"for x in doc{}emit x,1;", api.ErrUnbound, "doc x", 1}, {"emit x,1;for x in doc{}", api.ErrUnbound, "doc x", 1},
	{"for x in doc{if x{emit x,1;}else{emit x,2;}}", api.OK, "doc", 1}, {"for x in doc{}for x in doc{emit x,x;}", api.OK, "doc", 1}, {"for x in doc{for y in x{emit x,y;}emit x,1;}", api.OK, "doc", 2}, {"for x in doc{for y in x{}emit y,1;}", api.ErrUnbound, "doc y", 2},
	{"for doc in doc{}", api.ErrTwice, "doc", 1}, {"for id in doc{emit id,1;}", api.ErrTwice, "doc", 1}, {"for x in doc{for x in x{}}", api.ErrTwice, "doc", 2}, {"for x in doc{if x{for x in id{}}}", api.ErrTwice, "doc id", 2}, {"for x in doc{for y in x{for x in y{}}}", api.ErrTwice, "doc", 3}, {"for doc in y{}", api.ErrUnbound, "y", 1}, {"for doc in id{emit doc,x;}", api.ErrTwice, "id x", 1},
	{"for x in doc{for y in x{for z in y{}}}", api.ErrLoops, "doc", 3}, {"for x in doc{for y in x{for z in w{}}}", api.ErrUnbound, "doc w", 3}, {"for x in doc{for y in x{for z in y{emit w,1;}}}", api.ErrLoops, "doc w", 3}, {"for x in doc{if x{for y in x{if y{}else{for z in y{for w in z{}}}}}}", api.ErrLoops, "doc", 4},
	{"for x in doc{for y in x{}for z in x{}}for y in id{}", api.OK, "doc id", 2}, {"if doc{for x in doc{for y in x{}}}else{for x in id{}}", api.OK, "doc id", 2},
	{"emit doc,x;for doc in doc{}", api.ErrUnbound, "doc x", 1}, {"for doc in doc{}emit x,1;", api.ErrTwice, "doc x", 1}, {"for x in doc{for y in x{for z in y{}}}emit q,1;", api.ErrLoops, "doc q", 3}, {"if y{for doc in doc{}}", api.ErrUnbound, "doc y", 1}, {"if doc{for doc in doc{}}else{emit y,1;}", api.ErrTwice, "doc y", 1}, {"if doc{emit y,1;}else{for doc in doc{}}", api.ErrUnbound, "doc y", 1},
}

// P24.1, P24.2
func TestCheckFreeAndLoops(t *testing.T) {
	for _, x := range programs {
		p, at, err := vparse.Parse(x.src)
		if err != api.OK {
			t.Fatalf("Parse(%s) = %d %d", x.src, at, err)
		}
		if err := vcheck.Check(p); err != x.err {
			t.Errorf("Check(%s) = %d, want %d", x.src, err, x.err)
		}
		if l, err := vcheck.Free(p); strings.Join(l, " ") != x.free || err != api.OK {
			t.Errorf("Free(%s) = %v %d", x.src, l, err)
		}
		if n, err := vcheck.Loops(p); n != x.loops || err != api.OK {
			t.Errorf("Loops(%s) = %d %d", x.src, n, err)
		}
	}
	unbound := api.Stmt{Kind: api.StFor, Name: "doc", A: api.Expr{Kind: api.ExName, Name: "x"}}
	for _, s := range []api.Stmt{{}, {Kind: api.StFor, Name: "in", A: unbound.A}, {Kind: api.StIf, A: unbound.A, B: unbound.A}} {
		p := api.Prog{Body: []api.Stmt{unbound, s}}
		if err := vcheck.Check(p); err != api.ErrProg {
			t.Errorf("Check of an invalid program = %d", err)
		}
		if l, err := vcheck.Free(p); len(l) != 0 || err != api.ErrProg {
			t.Errorf("Free of an invalid program = %v %d", l, err)
		}
		if n, err := vcheck.Loops(p); n != 0 || err != api.ErrProg {
			t.Errorf("Loops of an invalid program = %d %d", n, err)
		}
	}
}

// P24.3
func TestCompile(t *testing.T) {
	for _, x := range programs {
		want, _, _ := vparse.Parse(x.src)
		p, at, err := vcheck.Compile(x.src)
		if err != x.err || at != 0 || err == api.OK && !vparse.Same(p, want) || err != api.OK && len(p.Body) != 0 {
			t.Errorf("Compile(%s) = %v %d %d", x.src, p, at, err)
		}
	}
	for _, src := range []string{"emit 1;", "emit x;", "?", "emit x,1; ?", `emit x,"a`, strings.Repeat(" ", 513), "emit " + strings.Repeat("not ", 12) + "x,1;", "for doc in doc{"} {
		_, wantAt, want := vparse.Parse(src)
		if p, at, err := vcheck.Compile(src); len(p.Body) != 0 || at != wantAt || err != want || err == api.OK {
			t.Errorf("Compile(%.20s) = %v %d %d, want %d %d", src, p, at, err, wantAt, want)
		}
	}
}

// P24.4
func TestConsequences(t *testing.T) {
	for _, x := range programs {
		p, _, _ := vparse.Parse(x.src)
		for _, y := range programs {
			q, _, _ := vparse.Parse(y.src)
			want := x.err
			if want == api.OK {
				want = y.err
			}
			if err := vcheck.Check(api.Prog{Body: slices.Concat(p.Body, q.Body)}); err != want {
				t.Errorf("Check(%s%s) = %d, want %d", x.src, y.src, err, want)
			}
		}
		around := api.Prog{Body: []api.Stmt{{Kind: api.StFor, Name: "fresh", A: api.Expr{Kind: api.ExName, Name: "doc"}, Body: p.Body}}}
		if n, _ := vcheck.Loops(around); n != x.loops+1 {
			t.Errorf("Loops of %s in a loop = %d", x.src, n)
		}
		if err := vcheck.Check(around); (err == api.OK) != (x.err == api.OK && x.loops < api.MaxLoops) {
			t.Errorf("Check of %s in a loop = %d", x.src, err)
		}
		l, _ := vcheck.Free(p)
		for _, name := range l {
			if x.err == api.OK && name != "doc" && name != "id" {
				t.Errorf("%s is free in %s", name, x.src)
			}
		}
	}
}
