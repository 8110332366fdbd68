package node_test

import (
	"bytes"
	"encoding/binary"
	"encoding/hex"
	"math"
	"math/rand"
	"slices"
	"strings"
	"testing"

	"davenport/api"
	"davenport/monoid"
	"davenport/node"
)

func item(key, val string) api.Item {
	return api.Item{Key: []byte(key), Value: []byte(val)}
}

func numbered(key, val string, n int64) api.Item {
	return api.Item{Key: []byte(key), Value: []byte(val), Int: true, N: n}
}

func kid(key string, at int, numbers ...int64) api.Kid {
	r := api.Red{Count: 1}
	for _, n := range numbers {
		r, _ = monoid.Join(r, monoid.One(api.Item{Int: true, N: n}))
	}
	return api.Kid{Key: []byte(key), At: at, Red: r}
}

func leaf(items ...api.Item) api.Node {
	return api.Node{Leaf: true, Items: items}
}

func inner(kids ...api.Kid) api.Node {
	return api.Node{Kids: kids}
}

// encoded is the encoding of a node, written anew from the chapter.
func encoded(n api.Node) []byte {
	text := func(b, s []byte) []byte { return append(append(b, byte(len(s))), s...) }
	if n.Leaf {
		b := []byte{1, byte(len(n.Items))}
		for _, x := range n.Items {
			b = text(text(b, x.Key), x.Value)
			if x.Int {
				b = append(b, 1)
			} else {
				b = append(b, 0)
			}
			b = binary.BigEndian.AppendUint64(b, uint64(x.N))
		}
		return b
	}
	b := []byte{2, byte(len(n.Kids))}
	for _, x := range n.Kids {
		b = binary.BigEndian.AppendUint32(text(b, x.Key), uint32(x.At))
		b = binary.BigEndian.AppendUint32(b, uint32(x.Red.Count))
		b = binary.BigEndian.AppendUint32(b, uint32(x.Red.Ints))
		for _, y := range []uint64{uint64(x.Red.High), x.Red.Low, uint64(x.Red.Least), uint64(x.Red.Most)} {
			b = binary.BigEndian.AppendUint64(b, y)
		}
	}
	return b
}

var longKey, longVal = strings.Repeat("k", api.MaxKey), strings.Repeat("v", api.MaxVal)

func rightNodes() []api.Node {
	full := leaf()
	most := inner()
	for i := range 6 {
		full.Items = append(full.Items, numbered(longKey[1:]+string(rune('a'+i)), longVal, int64(-i)))
		most.Kids = append(most.Kids, kid(longKey[1:]+string(rune('a'+i)), api.MaxFile-1, math.MinInt64, math.MaxInt64))
	}
	great := inner(kid("a", 1), kid("b", 2))
	great.Kids[0].Red.Count = api.MaxCount - 1
	return []api.Node{
		leaf(item("a", "")), leaf(item("a", "\x07")), leaf(numbered("a", "", 0)), leaf(numbered("a", "", -1)), leaf(item("\x00", "")), leaf(item("a", ""), numbered("b", "\x07", -1)),
		leaf(item("a", ""), item("a\x00", ""), item("aa", ""), item("b", ""), item("\xff", "")), leaf(numbered("x", "y", math.MinInt64), numbered("xx", "y", math.MaxInt64)), full,
		inner(kid("b", 1), kid("d", 2)), inner(kid("b", 5, 1, 2), kid("d", 4, -3), kid("e", 9)), inner(kid("b", 1), kid("b\x00", 1)), most, great,
	}
}

func wrongNodes() []api.Node {
	seven, seventh := leaf(), inner()
	for i := range 7 {
		seven.Items = append(seven.Items, item(string(rune('a'+i)), ""))
		seventh.Kids = append(seventh.Kids, kid(string(rune('a'+i)), 1))
	}
	wrongRed, none, over := kid("b", 1), kid("b", 1), inner(kid("a", 1), kid("b", 2))
	wrongRed.Red.Low, none.Red.Count = 1, 0
	over.Kids[0].Red.Count = api.MaxCount
	a, b := item("a", ""), kid("b", 1)
	return []api.Node{
		{}, {Leaf: true}, inner(b), seven, seventh, over,
		{Leaf: true, Items: []api.Item{a}, Kids: []api.Kid{b}}, {Items: []api.Item{a}, Kids: []api.Kid{kid("a", 1), b}}, {Items: []api.Item{a, item("b", "")}}, {Leaf: true, Kids: []api.Kid{kid("a", 1), b}},
		leaf(item("", "")), leaf(item(longKey+"k", "")), leaf(item("a", longVal+"v")), leaf(api.Item{Key: []byte("a"), N: 1}), leaf(a, api.Item{Key: []byte("b"), N: -1}),
		leaf(item("b", ""), a), leaf(a, a), leaf(item("ab", ""), a), leaf(a, item("c", ""), item("b", "")),
		inner(kid("", 1), b), inner(kid(longKey+"k", 1), kid("z", 1)), inner(kid("a", 0), b), inner(kid("a", -1), b), inner(kid("a", api.MaxFile), b), inner(kid("a", 1<<32+1), b), inner(kid("a", 1), wrongRed), inner(kid("a", 1), none), inner(b, kid("a", 1)), inner(b, b), inner(kid("ba", 1), b),
	}
}

// P14.1
func TestCheckAndSame(t *testing.T) {
	right := rightNodes()
	for i, n := range right {
		if err := node.Check(n); err != api.OK {
			t.Errorf("Check of node %d = %d", i, err)
		}
		for j, m := range rightNodes() {
			if node.Same(n, m) != (i == j) {
				t.Errorf("Same of nodes %d and %d", i, j)
			}
		}
	}
	for i, n := range wrongNodes() {
		if err := node.Check(n); err != api.ErrNode {
			t.Errorf("Check of wrong node %d = %d", i, err)
		}
		if node.Same(n, n) || node.Same(n, right[0]) || node.Same(right[0], n) {
			t.Errorf("Same of wrong node %d", i)
		}
	}
	if !node.Same(leaf(item("a", "")), api.Node{Leaf: true, Items: []api.Item{{Key: []byte("a")}}, Kids: []api.Kid{}}) {
		t.Error("nil and empty slices differ")
	}
}

// P14.2, P14.5
func TestEncodeAndDecode(t *testing.T) {
	if b, err := node.Encode(leaf(item("a", ""), numbered("b", "\x07", -1))); hex.EncodeToString(b) != "010201610000000000000000000001620107"+"01ffffffffffffffff" || err != api.OK {
		t.Errorf("Encode = %x %d", b, err)
	}
	for i, n := range rightNodes() {
		want := encoded(n)
		b, err := node.Encode(n)
		if err != api.OK || !bytes.Equal(b, want) || len(b) > api.MaxRecord {
			t.Errorf("Encode of node %d = %x %d", i, b, err)
		}
		if m, err := node.Decode(want); err != api.OK || !node.Same(m, n) {
			t.Errorf("Decode of node %d = %v %d", i, m, err)
		}
		for size := range len(want) {
			if m, err := node.Decode(want[:size]); err != api.ErrNode || m.Leaf || m.Items != nil || m.Kids != nil {
				t.Errorf("Decode of %d of %d bytes of node %d = %d", size, len(want), i, err)
			}
		}
		if _, err := node.Decode(append(want, 0)); err != api.ErrNode {
			t.Errorf("Decode of node %d and one byte more = %d", i, err)
		}
	}
	for i, n := range wrongNodes() {
		if b, err := node.Encode(n); err != api.ErrNode || len(b) != 0 {
			t.Errorf("Encode of wrong node %d = %x %d", i, b, err)
		}
		if n.Leaf && len(n.Kids) == 0 || !n.Leaf && len(n.Items) == 0 {
			// A wrong At may be cut to a right one by its four bytes; anything else is refused.
			if m, err := node.Decode(encoded(n)); err != api.ErrNode && (n.Leaf || n.Kids[0].At == m.Kids[0].At) {
				t.Errorf("Decode of wrong node %d = %v %d", i, m, err)
			}
		}
	}
}

// P14.2: no two encodings of one node; whatever is decoded encodes as itself.
func TestChangedEncodings(t *testing.T) {
	for i, n := range rightNodes() {
		want := encoded(n)
		for at := range want {
			for _, x := range []byte{0, 1, 2, 3, 7, 121, 255, want[at] + 1, want[at] - 1} {
				b := bytes.Clone(want)
				b[at] = x
				m, err := node.Decode(b)
				if err != api.OK && err != api.ErrNode || err == api.OK && (node.Check(m) != api.OK || !bytes.Equal(encoded(m), b)) {
					t.Fatalf("Decode of node %d with byte %d set to %d = %v %d", i, at, x, m, err)
				}
			}
		}
	}
	for _, s := range []string{"", "00", "01", "0100", "0200", "0301016100" + "000000000000000000", "01010161000200000000000000" + "00", "010101610000" + "0000000000000001"} {
		b, _ := hex.DecodeString(s)
		if m, err := node.Decode(b); err != api.ErrNode || m.Items != nil {
			t.Errorf("Decode(%s) = %v %d", s, m, err)
		}
	}
}

// P14.3, P14.5
func TestFirstAndRed(t *testing.T) {
	for i, n := range rightNodes() {
		var want []byte
		var parts []api.Red
		for _, x := range n.Items {
			parts = append(parts, monoid.One(x))
		}
		for _, x := range n.Kids {
			parts = append(parts, x.Red)
		}
		if n.Leaf {
			want = n.Items[0].Key
		} else {
			want = n.Kids[0].Key
		}
		if key, err := node.First(n); err != api.OK || !bytes.Equal(key, want) {
			t.Errorf("First of node %d = %q %d", i, key, err)
		}
		red, _ := monoid.Join(parts...)
		if r, err := node.Red(n); err != api.OK || r != red {
			t.Errorf("Red of node %d = %+v %d", i, r, err)
		}
		for cut := 1; n.Leaf && cut < len(n.Items); cut++ {
			a, _ := node.Red(leaf(n.Items[:cut]...))
			b, _ := node.Red(leaf(n.Items[cut:]...))
			if both, err := monoid.Join(a, b); both != red || err != api.OK {
				t.Errorf("the reductions of the parts of leaf %d are joined to %+v", i, both)
			}
		}
	}
	for i, n := range wrongNodes() {
		if key, err := node.First(n); err != api.ErrNode || len(key) != 0 {
			t.Errorf("First of wrong node %d = %q %d", i, key, err)
		}
		if r, err := node.Red(n); err != api.ErrNode || r != (api.Red{}) {
			t.Errorf("Red of wrong node %d = %+v %d", i, r, err)
		}
	}
}

// P14.4
func TestPlace(t *testing.T) {
	random := rand.New(rand.NewSource(15))
	keys := []string{"", "\x00", "a", "a\x00", "ab", "b", "ba", "c", "c\xff", "d", "\xff", "\xff\xff"}
	for range 300 {
		var names []string
		for _, k := range keys[1:] {
			if random.Intn(3) == 0 && len(names) < 6 {
				names = append(names, k)
			}
		}
		if len(names) < 2 {
			continue
		}
		l, in := leaf(), inner()
		for _, k := range names {
			l.Items = append(l.Items, item(k, ""))
			in.Kids = append(in.Kids, kid(k, 1))
		}
		for _, k := range keys {
			less, there := slices.BinarySearch(names, k)
			if i, ok := node.Place(l, []byte(k)); i != less || ok != there {
				t.Errorf("Place of %q in the leaf of %q = %d %v", k, names, i, ok)
			}
			want := 0
			for i, name := range names {
				if name <= k {
					want = i
				}
			}
			if i, ok := node.Place(in, []byte(k)); i != want || ok != there {
				t.Errorf("Place of %q in the inner node of %q = %d %v", k, names, i, ok)
			}
		}
	}
	for i, n := range wrongNodes() {
		for _, k := range []string{"a", "b", "z"} {
			if at, ok := node.Place(n, []byte(k)); at != 0 || ok {
				t.Errorf("Place of %s in wrong node %d = %d %v", k, i, at, ok)
			}
		}
	}
}
