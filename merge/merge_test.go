package merge_test

import (
	"bytes"
	"encoding/binary"
	"math/rand"
	"slices"
	"strings"
	"testing"

	"davenport/api"
	"davenport/merge"
)

// edits reads a list such as "a=1 c-".
func edits(s string) []api.Edit {
	var out []api.Edit
	for _, w := range strings.Fields(s) {
		if key, val, ok := strings.Cut(w, "="); ok {
			out = append(out, api.Edit{Key: []byte(key), Put: true, Value: []byte(val)})
		} else {
			out = append(out, api.Edit{Key: []byte(strings.TrimSuffix(w, "-"))})
		}
	}
	return out
}

func items(s string) []api.Item {
	var out []api.Item
	for _, e := range edits(s) {
		out = append(out, api.Item{Key: e.Key, Value: e.Value})
	}
	return out
}

func sameEdits(a, b []api.Edit) bool {
	return slices.EqualFunc(a, b, func(x, y api.Edit) bool {
		return bytes.Equal(x.Key, y.Key) && x.Put == y.Put && bytes.Equal(x.Value, y.Value) && x.Int == y.Int && x.N == y.N
	})
}

func sameItems(a, b []api.Item) bool {
	return slices.EqualFunc(a, b, func(x, y api.Item) bool {
		return bytes.Equal(x.Key, y.Key) && bytes.Equal(x.Value, y.Value) && x.Int == y.Int && x.N == y.N
	})
}

func wrongEdits() []api.Edit {
	key := []byte("m")
	return []api.Edit{
		{}, {Put: true}, {Key: bytes.Repeat(key, api.MaxKey+1)}, {Key: bytes.Repeat(key, api.MaxKey+1), Put: true}, {Key: key, Put: true, Value: make([]byte, api.MaxVal+1)},
		{Key: key, Value: []byte("1")}, {Key: key, Int: true}, {Key: key, Int: true, N: 1}, {Key: key, N: 1}, {Key: key, Put: true, N: 1}, {Key: key, Put: true, N: -1},
	}
}

// P15.1
func TestCheckAndLess(t *testing.T) {
	long := edits("a=1 m-")
	long[0].Key, long[0].Value = bytes.Repeat([]byte("k"), api.MaxKey), make([]byte, api.MaxVal)
	for i, l := range [][]api.Edit{nil, {}, edits("a=1"), edits("a-"), edits("a="), edits("a- aa=1 ab- b=2 \xff-"), long, {{Key: []byte("a"), Put: true, Int: true}, {Key: []byte("b"), Put: true, Int: true, N: -5}}} {
		if err := merge.Check(l); err != api.OK {
			t.Errorf("Check of list %d = %d", i, err)
		}
	}
	for _, s := range []string{"a=1 a=1", "a- a-", "b=1 a=1", "ab=1 a=1", "a=1 c=1 b=1", "a=1 b=1 b-"} {
		if err := merge.Check(edits(s)); err != api.ErrEdits {
			t.Errorf("Check(%s) = %d", s, err)
		}
	}
	for i, e := range wrongEdits() {
		for _, l := range [][]api.Edit{{e}, append(edits("a=1"), e), append([]api.Edit{e}, edits("z=1")...)} {
			if err := merge.Check(l); err != api.ErrEdits {
				t.Errorf("Check with wrong edit %d = %d", i, err)
			}
		}
	}
	keys := []string{"", "\x00", "\x01\x01", "a", "aa", "ab", "b", "\x80", "\xff"}
	for i, a := range keys {
		for j, b := range keys {
			if merge.Less([]byte(a), []byte(b)) != (i < j) {
				t.Errorf("Less(%q, %q)", a, b)
			}
		}
	}
}

// many returns n edits of different keys from a number on.
func many(from, n int) []api.Edit {
	var out []api.Edit
	for i := range n {
		out = append(out, api.Edit{Key: binary.BigEndian.AppendUint16(nil, uint16(from+i)), Put: i%2 == 0})
	}
	return out
}

// P15.2
func TestSort(t *testing.T) {
	for _, x := range []struct{ l, want string }{
		{"", ""}, {"b=1 a=2 b-", "a=2 b-"}, {"b- a=2 b=1", "a=2 b=1"}, {"c=1 b=1 a=1", "a=1 b=1 c=1"}, {"a=1 a=2 a=3", "a=3"}, {"a=1 a-", "a-"}, {"ab- a- b-", "a- ab- b-"},
	} {
		given := edits(x.l)
		if l, err := merge.Sort(given); err != api.OK || !sameEdits(l, edits(x.want)) || merge.Check(l) != api.OK {
			t.Errorf("Sort(%s) = %v %d", x.l, l, err)
		}
		if !sameEdits(given, edits(x.l)) {
			t.Errorf("Sort has changed %s", x.l)
		}
	}
	for i, e := range wrongEdits() {
		if l, err := merge.Sort(append(edits("z=1 a=1"), e)); err != api.ErrEdits || len(l) != 0 {
			t.Errorf("Sort with wrong edit %d = %v %d", i, l, err)
		}
		if l, err := merge.Sort(append(many(0, 600), e)); err != api.ErrEdits || len(l) != 0 {
			t.Errorf("Sort of many with wrong edit %d = %v %d", i, l, err)
		}
	}
	most := append(many(0, api.MaxBatch), many(0, 100)...)
	if l, err := merge.Sort(most); err != api.OK || len(l) != api.MaxBatch {
		t.Errorf("Sort of MaxBatch keys = %d edits, %d", len(l), err)
	}
	if l, err := merge.Sort(append(most, many(1000, 1)...)); err != api.ErrLong || len(l) != 0 {
		t.Errorf("Sort of MaxBatch + 1 keys = %d edits, %d", len(l), err)
	}
}

// P15.3
func TestMerge(t *testing.T) {
	for _, x := range []struct {
		lists []string
		want  string
	}{
		{nil, ""}, {[]string{""}, ""}, {[]string{"", "a=1", ""}, "a=1"}, {[]string{"a=1 c=1", "b=2 c-", "a=3"}, "a=3 b=2 c-"}, {[]string{"a=1", "a=2", "a=3"}, "a=3"}, {[]string{"a-", "a=2"}, "a=2"},
		{[]string{"a=1 b=1 c=1", "a=2 b=2", "a=3"}, "a=3 b=2 c=1"}, {[]string{"a=3", "a=2 b=2", "a=1 b=1 c=1"}, "a=1 b=1 c=1"}, {[]string{"x=1", "a=1", "m=1"}, "a=1 m=1 x=1"},
	} {
		var lists [][]api.Edit
		for _, s := range x.lists {
			lists = append(lists, edits(s))
		}
		if l, err := merge.Merge(lists...); err != api.OK || !sameEdits(l, edits(x.want)) {
			t.Errorf("Merge(%q) = %v %d", x.lists, l, err)
		}
	}
	for i, e := range wrongEdits() {
		if l, err := merge.Merge(many(0, 600), []api.Edit{e}); err != api.ErrEdits || len(l) != 0 {
			t.Errorf("Merge with wrong edit %d = %v %d", i, l, err)
		}
	}
	if l, err := merge.Merge(edits("a=1"), edits("b=1 a=1")); err != api.ErrEdits || len(l) != 0 {
		t.Errorf("Merge of a list that is not in order = %v %d", l, err)
	}
	if l, err := merge.Merge(many(0, 300), many(200, 312)); err != api.OK || len(l) != api.MaxBatch {
		t.Errorf("Merge of MaxBatch keys = %d edits, %d", len(l), err)
	}
	for _, lists := range [][][]api.Edit{{many(0, 300), many(200, 313)}, {many(0, 513)}, {many(0, 512), many(512, 1)}} {
		if l, err := merge.Merge(lists...); err != api.ErrLong || len(l) != 0 {
			t.Errorf("Merge of MaxBatch + 1 keys = %d edits, %d", len(l), err)
		}
	}
}

// P15.4
func TestDone(t *testing.T) {
	for _, x := range []struct{ items, l, want string }{
		{"", "", ""}, {"a=1 b=2", "", "a=1 b=2"}, {"", "a=1 b-", "a=1"}, {"a=1 c=1", "b=2 c- d-", "a=1 b=2"}, {"b=1", "a=2 b=3 c=4", "a=2 b=3 c=4"}, {"a=1 b=1 c=1", "a- b- c-", ""}, {"a=1 ab=1 b=1", "aa=2 ab-", "a=1 aa=2 b=1"}, {"b=1 d=1", "a- c- e-", "b=1 d=1"},
	} {
		if l, err := merge.Done(items(x.items), edits(x.l)); err != api.OK || !sameItems(l, items(x.want)) {
			t.Errorf("Done(%s; %s) = %v %d", x.items, x.l, l, err)
		}
	}
	number := []api.Edit{{Key: []byte("a"), Put: true, Value: []byte("5"), Int: true, N: 5}}
	if l, err := merge.Done(items("a=1"), number); err != api.OK || len(l) != 1 || string(l[0].Value) != "5" || !l[0].Int || l[0].N != 5 {
		t.Errorf("Done with a number = %v %d", l, err)
	}
	for _, x := range []struct{ items, l string }{{"a=1 a=1", ""}, {"b=1 a=1", "c=1"}, {"a=1", "b=1 a=1"}, {"a=1", "b=1 b-"}} {
		if l, err := merge.Done(items(x.items), edits(x.l)); err != api.ErrEdits || len(l) != 0 {
			t.Errorf("Done(%s; %s) = %v %d", x.items, x.l, l, err)
		}
	}
	for i, e := range wrongEdits() {
		if l, err := merge.Done(items("a=1"), []api.Edit{e}); err != api.ErrEdits || len(l) != 0 {
			t.Errorf("Done with wrong edit %d = %v %d", i, l, err)
		}
	}
}

func someEdits(random *rand.Rand) []api.Edit {
	var out []api.Edit
	for range random.Intn(8) {
		e := api.Edit{Key: []byte{byte('a' + random.Intn(8))}}
		if random.Intn(3) > 0 {
			e.Put, e.Value = true, []byte{byte('0' + random.Intn(10))}
			if random.Intn(2) == 0 {
				e.Int, e.N = true, int64(random.Intn(9))
			}
		}
		out = append(out, e)
	}
	return out
}

// P15.5
func TestConsequences(t *testing.T) {
	random := rand.New(rand.NewSource(15))
	for range 1000 {
		a, _ := merge.Sort(someEdits(random))
		b, _ := merge.Sort(someEdits(random))
		c, _ := merge.Sort(someEdits(random))
		all, err := merge.Merge(a, b, c)
		ab, _ := merge.Merge(a, b)
		bc, _ := merge.Merge(b, c)
		left, _ := merge.Merge(ab, c)
		right, _ := merge.Merge(a, bc)
		sorted, _ := merge.Sort(slices.Concat(a, b, c))
		if err != api.OK || !sameEdits(all, left) || !sameEdits(all, right) || !sameEdits(all, sorted) {
			t.Fatalf("Merge of %v, %v, %v = %v, %v, %v, sorted %v", a, b, c, all, left, right, sorted)
		}
		if twice, _ := merge.Merge(a, a); !sameEdits(twice, a) {
			t.Fatalf("Merge of %v with itself = %v", a, twice)
		}
		start, _ := merge.Done(nil, a)
		one, _ := merge.Done(start, b)
		one, _ = merge.Done(one, c)
		if both, _ := merge.Done(start, bc); !sameItems(one, both) {
			t.Fatalf("%v one after the other = %v, at once %v", start, one, both)
		}
		want := map[string]string{}
		for _, e := range slices.Concat(a, b) {
			if delete(want, string(e.Key)); e.Put {
				want[string(e.Key)] = string(e.Value)
			}
		}
		got, _ := merge.Done(start, b)
		for _, x := range got {
			if want[string(x.Key)] != string(x.Value) || len(got) != len(want) {
				t.Fatalf("Done = %v, want %v", got, want)
			}
		}
	}
}
