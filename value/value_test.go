package value_test

import (
	"math"
	"slices"
	"testing"

	"davenport/api"
	"davenport/sample"
	"davenport/value"
)

func list(kids ...api.Value) api.Value {
	return api.Value{Kind: api.VList, Kids: kids}
}

func object(kid api.Value, keys ...string) api.Value {
	v := api.Value{Kind: api.VObject, Keys: keys}
	for range keys {
		v.Kids = append(v.Kids, kid)
	}
	return v
}

func text(s string) api.Value {
	return api.Value{Kind: api.VText, S: s}
}

var null = api.Value{Kind: api.VNull}

type measured struct {
	v            api.Value
	depth, nodes int
}

// right are valid values with their measures.
func right() []measured {
	return []measured{
		{null, 0, 1},
		{api.Value{Kind: api.VBool}, 0, 1},
		{api.Value{Kind: api.VBool, N: 1}, 0, 1},
		{api.Value{Kind: api.VInt, N: math.MinInt64}, 0, 1},
		{api.Value{Kind: api.VInt, N: math.MaxInt64}, 0, 1},
		{text(""), 0, 1},
		{text("a\x00\U0010ffff"), 0, 1},
		{list(), 1, 1},
		{list(null, list()), 2, 3},
		{object(null), 1, 1},
		{object(null, "", "\x00", "a", "a\x00", "ab", "b", "é"), 1, 8},
		{object(list(null), "a", "b"), 2, 5},
		{sample.Nest(8), 8, 9},
		{object(sample.Nest(7), "k"), 8, 9},
		{sample.Wide(256), 1, 256},
		{list(sample.Wide(100), sample.Wide(155)), 2, 256},
	}
}

// P4.1
func TestCheckDepthAndNodes(t *testing.T) {
	for _, x := range right() {
		if err := value.Check(x.v); err != api.OK {
			t.Errorf("Check(%v) = %d", x.v, err)
		}
		if d, n := value.Depth(x.v), value.Nodes(x.v); d != x.depth || n != x.nodes {
			t.Errorf("Depth, Nodes of %v = %d, %d", x.v, d, n)
		}
	}
	for i, v := range sample.Wrong() {
		if err := value.Check(v); err != api.ErrValue {
			t.Errorf("Check of wrong value %d %v = %d", i, v, err)
		}
		if d, n := value.Depth(v), value.Nodes(v); d != 0 || n != 0 {
			t.Errorf("Depth, Nodes of wrong value %d = %d, %d", i, d, n)
		}
	}
}

// P4.1: a value within itself has no end; Check has.
func TestCheckEnds(t *testing.T) {
	v := list(null, null)
	v.Kids[0], v.Kids[1] = v, v
	if err := value.Check(v); err != api.ErrValue {
		t.Errorf("Check = %d", err)
	}
}

// P4.1
func TestSame(t *testing.T) {
	l := right()
	for i, x := range l {
		for j, y := range l {
			if value.Same(x.v, y.v) != (i == j) {
				t.Errorf("Same of %v and %v", x.v, y.v)
			}
		}
	}
	wrong := sample.Wrong()
	for i, v := range wrong {
		if value.Same(v, v) || value.Same(v, null) || value.Same(null, v) {
			t.Errorf("Same of wrong value %d", i)
		}
	}
	for _, p := range [][2]api.Value{
		{list(null), list(list())}, {list(null), list(null, null)}, {text("a"), text("b")},
		{object(null, "a"), object(null, "b")}, {object(null, "a"), object(list(), "a")}, {list(), object(null)},
		{api.Value{Kind: api.VInt, N: 1}, api.Value{Kind: api.VInt, N: 2}}, {api.Value{Kind: api.VInt, N: 1}, api.Value{Kind: api.VBool, N: 1}},
		{list(list(text("a"))), list(list(text("b")))},
	} {
		if value.Same(p[0], p[1]) || !value.Same(p[0], p[0]) {
			t.Errorf("Same of %v and %v", p[0], p[1])
		}
	}
	if !value.Same(api.Value{Kind: api.VList, Kids: []api.Value{}, Keys: []string{}}, list()) {
		t.Error("nil and empty slices differ")
	}
}

// P4.2
func TestScalars(t *testing.T) {
	if v := value.Null(); !value.Same(v, null) {
		t.Errorf("Null = %v", v)
	}
	if a, b := value.Bool(true), value.Bool(false); a.Kind != api.VBool || a.N != 1 || b.Kind != api.VBool || b.N != 0 {
		t.Errorf("Bool = %v, %v", a, b)
	}
	for _, n := range []int64{0, -1, math.MinInt64, math.MaxInt64} {
		if v := value.Int(n); v.Kind != api.VInt || v.N != n || value.Check(v) != api.OK {
			t.Errorf("Int(%d) = %v", n, v)
		}
	}
	for _, s := range []string{"", "a", "\x00é\U0010ffff"} {
		if v, err := value.Text(s); v.Kind != api.VText || v.S != s || err != api.OK {
			t.Errorf("Text(%q) = %v %d", s, v, err)
		}
	}
	for _, s := range []string{"\xff", "a\x80", "\xe2\x82"} {
		if v, err := value.Text(s); v.Kind != 0 || v.S != "" || err != api.ErrValue {
			t.Errorf("Text(%q) = %v %d", s, v, err)
		}
	}
}

// P4.2
func TestList(t *testing.T) {
	if v, err := value.List(null, text("a"), null); err != api.OK || !value.Same(v, list(null, text("a"), null)) {
		t.Errorf("List = %v %d", v, err)
	}
	if v, err := value.List(); err != api.OK || !value.Same(v, list()) {
		t.Errorf("List() = %v %d", v, err)
	}
	if v, err := value.List(sample.Nest(7)); err != api.OK || value.Depth(v) != 8 {
		t.Errorf("List of depth 7 = %d", err)
	}
	if v, err := value.List(sample.Wide(255)); err != api.OK || value.Nodes(v) != 256 {
		t.Errorf("List of 255 nodes = %d", err)
	}
	for i, v := range append(sample.Wrong(), sample.Nest(8), sample.Wide(256)) {
		if got, err := value.List(null, v); err != api.ErrValue || got.Kind != 0 || len(got.Kids) != 0 {
			t.Errorf("List with wrong value %d = %v %d", i, got, err)
		}
	}
}

// P4.2
func TestObject(t *testing.T) {
	one, two := value.Int(1), value.Int(2)
	pairs := []api.Pair{{Key: "b", Value: one}, {Key: "", Value: two}, {Key: "a\x00", Value: null}, {Key: "a", Value: one}}
	v, err := value.Object(pairs...)
	if err != api.OK || !slices.Equal(v.Keys, []string{"", "a", "a\x00", "b"}) || v.Kids[0].N != 2 || v.Kids[1].N != 1 || v.Kids[2].Kind != api.VNull || v.Kids[3].N != 1 {
		t.Errorf("Object = %v %d", v, err)
	}
	if pairs[0].Key != "b" || pairs[3].Key != "a" {
		t.Error("Object has sorted its argument")
	}
	if v, err := value.Object(); err != api.OK || !value.Same(v, object(null)) {
		t.Errorf("Object() = %v %d", v, err)
	}
	for i, wrong := range append(sample.Wrong(), sample.Nest(8), sample.Wide(256)) {
		if v, err := value.Object(api.Pair{Key: "a", Value: wrong}, api.Pair{Key: "b", Value: one}); err != api.ErrValue || v.Kind != 0 || len(v.Keys) != 0 {
			t.Errorf("Object with wrong value %d = %v %d", i, v, err)
		}
		if v, err := value.Object(api.Pair{Key: "a", Value: wrong}, api.Pair{Key: "\xff"}, api.Pair{Key: "a", Value: one}); err != api.ErrDouble || v.Kind != 0 || len(v.Keys) != 0 {
			t.Errorf("Object with a double key and wrong value %d = %v %d", i, v, err)
		}
	}
	if _, err := value.Object(api.Pair{Key: "\xff", Value: one}); err != api.ErrValue {
		t.Errorf("Object with a wrong key = %d", err)
	}
	if _, err := value.Object(api.Pair{Key: "\xff"}, api.Pair{Key: "\xff"}); err != api.ErrDouble {
		t.Errorf("Object with a wrong key twice = %d", err)
	}
}

// P4.3
func TestGetAndPath(t *testing.T) {
	inner := object(text("x"), "k", "m")
	v, _ := value.Object(api.Pair{Key: "b", Value: value.Int(1)}, api.Pair{Key: "d", Value: inner}, api.Pair{Key: "f", Value: list(inner)})
	for _, x := range []struct {
		keys []string
		want api.Value
		ok   bool
	}{
		{nil, v, true}, {[]string{"b"}, value.Int(1), true}, {[]string{"d"}, inner, true}, {[]string{"f"}, list(inner), true}, {[]string{"d", "k"}, text("x"), true}, {[]string{"d", "m"}, text("x"), true},
		{[]string{"a"}, api.Value{}, false}, {[]string{"c"}, api.Value{}, false}, {[]string{"e"}, api.Value{}, false}, {[]string{"g"}, api.Value{}, false}, {[]string{""}, api.Value{}, false},
		{[]string{"b", "k"}, api.Value{}, false}, {[]string{"d", "l"}, api.Value{}, false}, {[]string{"f", "k"}, api.Value{}, false}, {[]string{"d", "k", "x"}, api.Value{}, false}, {[]string{"a", "b"}, api.Value{}, false},
	} {
		got, ok := value.Path(v, x.keys...)
		if ok != x.ok || ok && !value.Same(got, x.want) || !ok && got.Kind != 0 {
			t.Errorf("Path along %v = %v %v", x.keys, got, ok)
		}
		if len(x.keys) == 1 {
			if got, ok := value.Get(v, x.keys[0]); ok != x.ok || ok && !value.Same(got, x.want) || !ok && got.Kind != 0 {
				t.Errorf("Get(%v) = %v %v", x.keys, got, ok)
			}
		}
	}
	for _, x := range []api.Value{null, text("b"), list(v)} {
		if got, ok := value.Get(x, "b"); ok || got.Kind != 0 {
			t.Errorf("Get of %v = %v", x, got)
		}
	}
	for i, wrong := range sample.Wrong() {
		for _, x := range []api.Value{wrong, object(wrong, "a", "b")} {
			if got, ok := value.Get(x, "a"); ok || got.Kind != 0 {
				t.Errorf("Get of wrong value %d = %v", i, got)
			}
			if got, ok := value.Path(x); ok || got.Kind != 0 || len(got.Kids)+len(got.Keys) != 0 {
				t.Errorf("Path of wrong value %d = %v", i, got)
			}
		}
	}
}

// P4.3
func TestAtAndLen(t *testing.T) {
	v := list(value.Int(7), value.Int(8))
	for i := range 2 {
		if got, ok := value.At(v, i); !ok || got.N != int64(7+i) {
			t.Errorf("At(%d) = %v %v", i, got, ok)
		}
	}
	for _, i := range []int{-1, 2, math.MinInt, math.MaxInt} {
		if got, ok := value.At(v, i); ok || got.Kind != 0 {
			t.Errorf("At(%d) = %v %v", i, got, ok)
		}
	}
	for _, x := range []api.Value{null, text("ab"), object(null, "a"), list(), list(api.Value{})} {
		if got, ok := value.At(x, 0); ok || got.Kind != 0 {
			t.Errorf("At of %v = %v", x, got)
		}
	}
	for _, x := range []struct {
		v  api.Value
		n  int
		ok bool
	}{
		{text(""), 0, true}, {text("aé€\U0001F600"), 4, true}, {list(), 0, true}, {v, 2, true}, {object(null, "a", "b", "c"), 3, true}, {object(null), 0, true}, {list(list(null, null)), 1, true},
		{null, 0, false}, {value.Bool(true), 0, false}, {value.Int(5), 0, false}, {text("\xff"), 0, false}, {list(null, api.Value{}), 0, false}, {sample.Nest(9), 0, false},
	} {
		if n, ok := value.Len(x.v); n != x.n || ok != x.ok {
			t.Errorf("Len of %v = %d %v", x.v, n, ok)
		}
	}
}

// P4.4
func TestConsequences(t *testing.T) {
	random := sample.New(4)
	for _, v := range random.Values(500) {
		if value.Check(v) != api.OK || !value.Same(v, v) {
			t.Fatalf("%v is not valid", v)
		}
		var pairs []api.Pair
		for i, kid := range v.Kids {
			if value.Check(kid) != api.OK {
				t.Fatalf("a kid of %v is not valid", v)
			}
			if v.Kind != api.VObject {
				continue
			}
			pairs = append(pairs, api.Pair{Key: v.Keys[i], Value: kid})
			for _, key := range kid.Keys {
				all, ok := value.Path(v, v.Keys[i], key)
				half, _ := value.Path(v, v.Keys[i])
				rest, _ := value.Path(half, key)
				if !ok || !value.Same(all, rest) {
					t.Fatalf("Path of %v along %q, %q", v, v.Keys[i], key)
				}
			}
		}
		slices.Reverse(pairs)
		if got, err := value.Object(pairs...); v.Kind == api.VObject && (err != api.OK || !value.Same(got, v)) {
			t.Fatalf("Object of %v = %v %d", pairs, got, err)
		}
	}
}
