package tree_test

import (
	"bytes"
	"math"
	"slices"
	"strings"
	"testing"

	"davenport/api"
	"davenport/file"
	"davenport/frame"
	"davenport/node"
	"davenport/tree"
)

// builder puts the nodes of a tree into a file.
type builder struct {
	t *testing.T
	f api.File
}

func (b *builder) put(n api.Node) api.Kid {
	b.t.Helper()
	code, err := node.Encode(n)
	if err != api.OK {
		b.t.Fatalf("Encode = %d", err)
	}
	var at int
	if b.f, at, err = frame.Put(b.f, code); err != api.OK {
		b.t.Fatalf("Put = %d", err)
	}
	key, _ := node.First(n)
	red, _ := node.Red(n)
	return api.Kid{Key: key, At: at, Red: red}
}

// leaf puts a leaf of one-byte keys; every second item has a number.
func (b *builder) leaf(keys string) api.Kid {
	n := api.Node{Leaf: true}
	for i := range len(keys) {
		x := api.Item{Key: []byte(keys[i : i+1]), Value: []byte("v" + keys[i:i+1])}
		if i%2 == 0 {
			x.Int, x.N = true, int64(keys[i])
		}
		n.Items = append(n.Items, x)
	}
	return b.put(n)
}

func (b *builder) inner(kids ...api.Kid) api.Kid {
	return b.put(api.Node{Kids: kids})
}

func root(k api.Kid, depth int) api.Tree {
	return api.Tree{At: k.At, Depth: depth, Red: k.Red}
}

// sample puts a tree of two levels of inner nodes.
func sample(t *testing.T) (*builder, api.Tree, string) {
	b := &builder{t, file.New()}
	keys := []byte("ACEGIKMOQSUWYacegikmoqsuwy")
	left := b.inner(b.leaf(string(keys[:3])), b.leaf(string(keys[3:9])), b.leaf(string(keys[9:13])))
	right := b.inner(b.leaf(string(keys[13:16])), b.leaf(string(keys[16:19])), b.leaf(string(keys[19:22])), b.leaf(string(keys[22:26])))
	return b, root(b.inner(left, right), 2), string(keys)
}

var wrongFile = api.File{Fuse: -2, Fault: -1}

// P16.1: the examples, and trees of all depths.
func TestCheckOfValidTrees(t *testing.T) {
	b := &builder{t, file.New()}
	trees := []api.Tree{{}, root(b.leaf("a"), 0), root(b.leaf("abcdef"), 0), root(b.inner(b.leaf("abc"), b.leaf("defg")), 1)}
	if err := tree.Check(b.f, trees[3]); err != api.OK || trees[3].Depth != 1 {
		t.Errorf("Check of the example = %d", err)
	}
	for i, x := range trees {
		for _, f := range []api.File{b.f, {Firm: append(bytes.Clone(b.f.Firm), bytes.Join(b.f.Loose, nil)...), Fuse: -1, Fault: -1}} {
			if err := tree.Check(f, x); err != api.OK {
				t.Errorf("Check of tree %d = %d", i, err)
			}
		}
		if err := tree.Check(wrongFile, x); err != api.ErrFile {
			t.Errorf("Check of tree %d in a wrong file = %d", i, err)
		}
	}
	if err := tree.Check(file.New(), trees[1]); err != api.ErrTree {
		t.Errorf("Check in another file = %d", err)
	}
	c, x, _ := sample(t)
	if err := tree.Check(c.f, x); err != api.OK {
		t.Errorf("Check of a tree of two levels = %d", err)
	}
	for i := range c.f.Loose {
		cut := c.f
		cut.Loose = c.f.Loose[:i]
		if err := tree.Check(cut, x); err != api.ErrTree {
			t.Errorf("Check with %d of %d nodes = %d", i, len(c.f.Loose), err)
		}
	}
}

// deep puts a tree of that depth whose keys have several bytes; each inner node has three kids, the root two.
func deep(b *builder, depth int, prefix string, fan int) api.Kid {
	if depth == 0 {
		n := api.Node{Leaf: true}
		for i := range fan {
			n.Items = append(n.Items, api.Item{Key: []byte(prefix + string(rune('a'+i)))})
		}
		return b.put(n)
	}
	var kids []api.Kid
	for i := range fan {
		kids = append(kids, deep(b, depth-1, prefix+string(rune('a'+i)), 3))
	}
	return b.inner(kids...)
}

// P16.1
func TestCheckOfDepths(t *testing.T) {
	b := &builder{t, file.New()}
	x := root(deep(b, 5, "", 2), 5)
	if err := tree.Check(b.f, x); err != api.OK {
		t.Errorf("Check of depth 5 = %d", err)
	}
	for _, depth := range []int{-1, 0, 4, 6, 9, math.MaxInt, math.MinInt} {
		y := x
		y.Depth = depth
		if err := tree.Check(b.f, y); err != api.ErrTree {
			t.Errorf("Check of depth 5 as %d = %d", depth, err)
		}
		if got, err := tree.Get(b.f, y, []byte("aaaaaa")); err == api.OK && string(got.Key) != "aaaaaa" {
			t.Errorf("Get of depth 5 as %d = %v %d", depth, got, err)
		}
		if _, err := tree.Range(b.f, y, api.Bounds{}, false, -1); err != api.ErrTree && err != api.OK {
			t.Errorf("Range of depth 5 as %d = %d", depth, err)
		}
	}
}

// P16.1: each thing that a valid tree must have is taken from it.
func TestCheckOfInvalidTrees(t *testing.T) {
	b := &builder{t, file.New()}
	x := root(b.inner(b.leaf("abc"), b.leaf("defg")), 1)
	more := func(change func(*api.Tree)) api.Tree {
		y := x
		change(&y)
		return y
	}
	kid := func(k api.Kid, change func(*api.Kid)) api.Kid {
		change(&k)
		return k
	}
	abc, defg, de, ab := b.leaf("abc"), b.leaf("defg"), b.leaf("de"), b.leaf("ab")
	sub := b.inner(b.leaf("abc"), b.leaf("def"))
	other, _ := node.Encode(api.Node{Leaf: true, Items: []api.Item{{Key: []byte("a")}}})
	b.f, _, _ = frame.Put(b.f, append(other, 0))
	trees := []api.Tree{
		more(func(y *api.Tree) { y.Depth = 0 }), more(func(y *api.Tree) { y.Depth = 2 }), more(func(y *api.Tree) { y.Red.Count = 8 }), more(func(y *api.Tree) { y.Red = api.Red{} }), more(func(y *api.Tree) { y.Red.Most++ }), more(func(y *api.Tree) { y.At++ }), more(func(y *api.Tree) { y.At = 0 }), more(func(y *api.Tree) { y.At = -5 }), more(func(y *api.Tree) { y.At = math.MaxInt }), more(func(y *api.Tree) { y.At = 1 }),
		{Depth: 1}, {Red: api.Red{Count: 1}}, {At: 1},
		root(abc, 1), root(b.inner(abc, de), 1), root(b.inner(ab, defg), 1), root(b.inner(abc, defg), 2),
		root(b.inner(abc, kid(defg, func(k *api.Kid) { k.Key = []byte("cd") })), 1), root(b.inner(kid(abc, func(k *api.Kid) { k.Key = []byte("A") }), defg), 1), root(b.inner(abc, kid(defg, func(k *api.Kid) { k.Key = []byte("dd") })), 1),
		root(b.inner(abc, kid(defg, func(k *api.Kid) { k.Red.Count++ })), 1), root(b.inner(abc, kid(defg, func(k *api.Kid) { k.At++ })), 1), root(b.inner(abc, kid(defg, func(k *api.Kid) { k.At = abc.At })), 1), root(b.inner(abc, kid(defg, func(k *api.Kid) { k.At = api.MaxFile - 1 })), 1),
		root(b.inner(b.leaf("abd"), b.leaf("cef")), 1), root(b.inner(b.leaf("abc"), b.leaf("bcd")), 1), root(b.inner(b.leaf("abe"), b.leaf("def")), 1), root(b.inner(b.leaf("abd"), b.leaf("def")), 1),
		root(b.inner(sub, b.leaf("ghi")), 2), root(b.inner(sub, b.leaf("ghi")), 1), root(b.inner(sub, b.inner(b.leaf("ghi"), b.leaf("jkl"))), 2),
	}
	low := b.inner(b.leaf("abc"), b.leaf("def"), b.leaf("ghk"))
	high := b.inner(b.leaf("jlm"), b.leaf("nop"), b.leaf("qrs"))
	trees = append(trees, root(b.inner(low, high), 2))
	for i, y := range trees {
		if err := tree.Check(b.f, y); err != api.ErrTree {
			t.Errorf("Check of wrong tree %d = %d", i, err)
		}
		if err := tree.Check(wrongFile, y); err != api.ErrFile {
			t.Errorf("Check of wrong tree %d in a wrong file = %d", i, err)
		}
		for _, key := range []string{"", "a", "c", "d", "z"} {
			x, err := tree.Get(b.f, y, []byte(key))
			if err != api.OK && err != api.ErrTree && err != api.ErrNone || err != api.OK && x.Key != nil {
				t.Errorf("Get of %s in wrong tree %d = %v %d", key, i, x, err)
			}
		}
		for _, turned := range []bool{false, true} {
			checkAnyRange(t, b.f, y, api.Bounds{From: []byte("b"), Ends: true, To: []byte("e")}, turned, 3)
			checkAnyRange(t, b.f, y, api.Bounds{}, turned, -1)
		}
	}
}

// checkAnyRange checks what is promised of ranges of any trees.
func checkAnyRange(t *testing.T, f api.File, x api.Tree, b api.Bounds, turned bool, most int) {
	t.Helper()
	l, err := tree.Range(f, x, b, turned, most)
	if err != api.OK && (err != api.ErrTree || len(l) > 0) || most >= 0 && len(l) > most {
		t.Errorf("Range of %v = %v %d", x, l, err)
	}
	for i, y := range l {
		n := -1
		if i > 0 {
			n = bytes.Compare(l[i-1].Key, y.Key)
		}
		if !tree.Within(b, y.Key) || i > 0 && (n >= 0 && !turned || n <= 0 && turned) {
			t.Errorf("Range of %v = %v", x, l)
		}
	}
}

// P16.1: a node must be put before the one that refers to it.
func TestOrderOfOffsets(t *testing.T) {
	b := &builder{t, file.New()}
	abc := b.leaf("abc")
	later := *b
	def := later.leaf("def")
	size := file.Len(b.f)
	// The root is put where the leaf would have been; it has a fixed length, so the leaf's place behind it is known.
	for shift := range 400 {
		c := *b
		k := def
		k.At = size + shift
		r := c.inner(abc, k)
		if got := c.leaf("def"); got.At == k.At {
			if err := tree.Check(c.f, root(r, 1)); err != api.ErrTree {
				t.Errorf("Check of a root before its leaf = %d", err)
			}
			return
		}
	}
	t.Error("no such place was found")
}

// P16.2
func TestLoad(t *testing.T) {
	b := &builder{t, file.New()}
	abc := b.leaf("abc")
	in := b.inner(abc, b.leaf("defg"))
	f, at, _ := frame.Put(b.f, []byte("no node"))
	for _, x := range []struct {
		at, depth int
		leaf, ok  bool
	}{
		{abc.At, 0, true, true}, {in.At, 1, false, true}, {in.At, 2, false, true}, {in.At, math.MaxInt, false, true},
		{abc.At, 1, false, false}, {in.At, 0, false, false}, {abc.At, -1, false, false}, {in.At, -1, false, false}, {in.At, math.MinInt, false, false}, {0, 0, false, false}, {abc.At + 1, 0, false, false}, {at, 0, false, false}, {-1, 0, false, false}, {math.MaxInt, 0, false, false},
	} {
		n, err := tree.Load(f, x.at, x.depth)
		if x.ok && (err != api.OK || n.Leaf != x.leaf || node.Check(n) != api.OK) || !x.ok && (err != api.ErrTree || len(n.Items)+len(n.Kids) > 0 || n.Leaf) {
			t.Errorf("Load(%d, %d) = %v %d", x.at, x.depth, n, err)
		}
	}
	if n, _ := tree.Load(f, in.At, 1); len(n.Kids) != 2 || n.Kids[0].At != abc.At {
		t.Errorf("Load of the root = %v", n)
	}
	if n, err := tree.Load(wrongFile, in.At, 1); err != api.ErrFile || len(n.Kids) > 0 {
		t.Errorf("Load in a wrong file = %d", err)
	}
}

// P16.3
func TestGet(t *testing.T) {
	b, x, keys := sample(t)
	for c := range 256 {
		key := string([]byte{byte(c)})
		for _, k := range []string{key, key + "a", ""} {
			got, err := tree.Get(b.f, x, []byte(k))
			if len(k) == 1 && strings.Contains(keys, k) {
				if err != api.OK || string(got.Key) != k || string(got.Value) != "v"+k || got.Int && got.N != int64(c) {
					t.Errorf("Get(%q) = %v %d", k, got, err)
				}
			} else if err != api.ErrNone || got.Key != nil || got.Value != nil {
				t.Errorf("Get(%q) = %v %d", k, got, err)
			}
		}
	}
	if _, err := tree.Get(b.f, api.Tree{}, []byte("a")); err != api.ErrNone {
		t.Errorf("Get in the empty tree = %d", err)
	}
	if _, err := tree.Get(wrongFile, x, []byte("a")); err != api.ErrFile {
		t.Errorf("Get in a wrong file = %d", err)
	}
}

// P16.3, P16.5: all bounds at and between keys, in both directions.
func TestRange(t *testing.T) {
	b, x, keys := sample(t)
	points := []string{"", "@", "A", "AA", "B", "E", "F", "G", "Q", "R", "S", "Y", "Z", "a", "b", "e", "f", "k", "l", "y", "z", "\xff"}
	for _, from := range points {
		for _, to := range append(points, "none") {
			bounds := api.Bounds{From: []byte(from), Ends: to != "none", To: []byte(to)}
			var want []string
			for _, k := range keys {
				if k := string(k); k >= from && (to == "none" || k < to) {
					want = append(want, k)
				}
			}
			for _, turned := range []bool{false, true} {
				if turned {
					slices.Reverse(want)
				}
				for _, most := range []int{-1, math.MinInt, 0, 1, 2, 5, len(want), len(want) + 1, 100} {
					part := want
					if most >= 0 {
						part = want[:min(most, len(want))]
					}
					l, err := tree.Range(b.f, x, bounds, turned, most)
					var got []string
					for _, y := range l {
						got = append(got, string(y.Key))
					}
					if err != api.OK || !slices.Equal(got, part) {
						t.Fatalf("Range from %q to %q, turned %v, most %d = %q %d, want %q", from, to, turned, most, got, err, part)
					}
				}
			}
		}
	}
	if l, err := tree.Range(b.f, api.Tree{}, api.Bounds{}, false, -1); err != api.OK || len(l) != 0 {
		t.Errorf("Range of the empty tree = %v %d", l, err)
	}
	if l, err := tree.Range(wrongFile, x, api.Bounds{}, false, -1); err != api.ErrFile || len(l) != 0 {
		t.Errorf("Range in a wrong file = %v %d", l, err)
	}
	if l, _ := tree.Range(b.f, x, api.Bounds{}, false, -1); len(l) != len(keys) || string(l[0].Value) != "vA" || !l[0].Int || l[0].N != 'A' || l[1].Int {
		t.Errorf("Range = %v", l)
	}
}

// P16.4
func TestWithin(t *testing.T) {
	for _, x := range []struct {
		b    api.Bounds
		key  string
		want bool
	}{
		{api.Bounds{}, "", true}, {api.Bounds{}, "a", true}, {api.Bounds{From: []byte("b")}, "a", false}, {api.Bounds{From: []byte("b")}, "b", true}, {api.Bounds{From: []byte("b")}, "ba", true}, {api.Bounds{From: []byte("ba")}, "b", false},
		{api.Bounds{Ends: true}, "", false}, {api.Bounds{Ends: true}, "a", false}, {api.Bounds{To: []byte("a")}, "b", true}, {api.Bounds{Ends: true, To: []byte("b")}, "a", true}, {api.Bounds{Ends: true, To: []byte("b")}, "b", false}, {api.Bounds{Ends: true, To: []byte("b")}, "azzz", true}, {api.Bounds{Ends: true, To: []byte("b")}, "ba", false},
		{api.Bounds{From: []byte("c"), Ends: true, To: []byte("a")}, "b", false}, {api.Bounds{From: []byte("c"), Ends: true, To: []byte("a")}, "c", false}, {api.Bounds{From: []byte{128}}, "a", false}, {api.Bounds{From: []byte("a")}, "\x80", true},
	} {
		if tree.Within(x.b, []byte(x.key)) != x.want {
			t.Errorf("Within(%v, %q) = %v", x.b, x.key, !x.want)
		}
	}
}

// P16.5
func TestAppendedBytes(t *testing.T) {
	b, x, keys := sample(t)
	f := b.f
	for i := range 5 {
		f, _ = file.Append(f, bytes.Repeat([]byte{byte(i)}, 40))
		l, err := tree.Range(f, x, api.Bounds{}, false, -1)
		if tree.Check(f, x) != api.OK || err != api.OK || len(l) != len(keys) {
			t.Errorf("after %d more pieces: %d items, %d", i+1, len(l), err)
		}
	}
}
