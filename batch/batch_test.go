package batch_test

import (
	"bytes"
	"encoding/binary"
	"math"
	"math/rand"
	"slices"
	"strings"
	"testing"

	"davenport/api"
	"davenport/batch"
	"davenport/file"
	"davenport/merge"
	"davenport/tree"
)

// edits reads a list such as "a b- c".
func edits(s string) []api.Edit {
	var out []api.Edit
	for _, w := range strings.Fields(s) {
		key, gone := strings.CutSuffix(w, "-")
		out = append(out, api.Edit{Key: []byte(key), Put: !gone})
	}
	return out
}

func sameItems(a, b []api.Item) bool {
	return slices.EqualFunc(a, b, func(x, y api.Item) bool {
		return bytes.Equal(x.Key, y.Key) && bytes.Equal(x.Value, y.Value) && x.Int == y.Int && x.N == y.N
	})
}

func keys(l []api.Item) string {
	var out []string
	for _, x := range l {
		out = append(out, string(x.Key))
	}
	return strings.Join(out, " ")
}

// state is a file with a tree, and the items that the tree should have.
type state struct {
	f     api.File
	t     api.Tree
	items []api.Item
}

// apply applies edits, and checks everything that is promised of it.
func (s state) apply(t *testing.T, l []api.Edit) state {
	t.Helper()
	want, _ := merge.Done(s.items, l)
	f, x, err := batch.Apply(s.f, s.t, l)
	if err != api.OK {
		t.Fatalf("Apply = %d", err)
	}
	if sameItems(want, s.items) {
		if x != s.t || !file.Same(f, s.f) {
			t.Fatalf("Apply of edits that change nothing = %v", x)
		}
		return s
	}
	if err := tree.Check(f, x); err != api.OK {
		t.Fatalf("Check of the new tree = %d", err)
	}
	if got, _ := tree.Range(f, x, api.Bounds{}, false, -1); !sameItems(got, want) {
		t.Fatalf("the new tree has %q, want %q", keys(got), keys(want))
	}
	// Only appending is allowed, with one piece for each new node.
	fresh, err := batch.Nodes(f, x, file.Len(s.f))
	if err != api.OK || len(f.Loose)-len(s.f.Loose) != fresh || !bytes.Equal(f.Firm, s.f.Firm) || !slices.EqualFunc(f.Loose[:len(s.f.Loose)], s.f.Loose, bytes.Equal) {
		t.Fatalf("%d pieces for %d new nodes, %d", len(f.Loose)-len(s.f.Loose), fresh, err)
	}
	if got, err := tree.Range(f, s.t, api.Bounds{}, false, -1); err != api.OK || !sameItems(got, s.items) || tree.Check(f, s.t) != api.OK {
		t.Fatalf("the old tree has %q, want %q", keys(got), keys(s.items))
	}
	return state{f, x, want}
}

func (s state) fresh(t *testing.T, before state) int {
	t.Helper()
	n, err := batch.Nodes(s.f, s.t, file.Len(before.f))
	if err != api.OK {
		t.Fatalf("Nodes = %d", err)
	}
	return n
}

func (s state) synced() state {
	s.f, _ = file.Sync(s.f)
	return s
}

// P17.1, P17.2: the chapter's examples.
func TestExamples(t *testing.T) {
	start := state{f: file.New()}
	a := start.apply(t, edits("a b c d e f"))
	if a.t.Depth != 0 || a.fresh(t, start) != 1 {
		t.Errorf("a to f: depth %d, %d new nodes", a.t.Depth, a.fresh(t, start))
	}
	g := a.apply(t, edits("g"))
	if g.t.Depth != 1 || g.fresh(t, a) != 3 {
		t.Errorf("and g: depth %d, %d new nodes", g.t.Depth, g.fresh(t, a))
	}
	e := g.apply(t, edits("a- b- c- d-"))
	if e.t.Depth != 0 || keys(e.items) != "e f g" {
		t.Errorf("without a to d: depth %d, %s", e.t.Depth, keys(e.items))
	}
	e.apply(t, edits("x-"))
	e.apply(t, edits("e f g"))
	e.apply(t, nil)
	none := e.apply(t, edits("e- f- g-"))
	if none.t != (api.Tree{}) || none.fresh(t, e) != 0 {
		t.Errorf("without any: %v", none.t)
	}
	start.apply(t, nil)
	start.apply(t, edits("a- b-"))
}

// P17.1: values and numbers are items' parts too.
func TestChangesOfAnItem(t *testing.T) {
	s := state{f: file.New()}.apply(t, edits("a b c d e f g h"))
	for _, e := range []api.Edit{{Key: []byte("c"), Put: true, Value: []byte("1")}, {Key: []byte("c"), Put: true, Value: []byte("1"), Int: true}, {Key: []byte("c"), Put: true, Value: []byte("1"), Int: true, N: 5}, {Key: []byte("c"), Put: true, Int: true, N: -5}, {Key: []byte("c"), Put: true}} {
		next := s.apply(t, []api.Edit{e})
		if next.t == s.t {
			t.Errorf("the edit %v changes nothing", e)
		}
		s = next.apply(t, []api.Edit{e})
	}
}

// P17.1
func TestErrors(t *testing.T) {
	s := state{f: file.New()}.apply(t, edits("a b c d e f g h"))
	wrongFile := api.File{Fuse: -2, Fault: -1}
	wrongTree := api.Tree{At: 7}
	wrongRed := s.t
	wrongRed.Red.Count++
	for _, x := range []struct {
		f   api.File
		t   api.Tree
		l   []api.Edit
		err api.Errno
	}{
		{wrongFile, wrongTree, edits("b a"), api.ErrFile}, {s.f, wrongTree, edits("b a"), api.ErrTree}, {s.f, wrongRed, nil, api.ErrTree}, {file.New(), s.t, edits("a"), api.ErrTree},
		{s.f, s.t, edits("b a"), api.ErrEdits}, {s.f, s.t, edits("a a"), api.ErrEdits}, {s.f, s.t, []api.Edit{{}}, api.ErrEdits}, {s.f, api.Tree{}, edits("b a"), api.ErrEdits}, {s.f, s.t, []api.Edit{{Key: []byte("x"), Value: []byte("1")}}, api.ErrEdits},
	} {
		f, u, err := batch.Apply(x.f, x.t, x.l)
		if err != x.err || u != x.t || f.Fuse != x.f.Fuse || len(f.Loose) != len(x.f.Loose) {
			t.Errorf("Apply = %v %d, want %d", u, err, x.err)
		}
		if n, err := batch.Nodes(x.f, x.t, 0); x.err != api.ErrEdits && (n != 0 || err != x.err) {
			t.Errorf("Nodes = %d %d, want %d", n, err, x.err)
		}
	}
}

// P17.1: each of the Appends fails in turn.
func TestFailingAppends(t *testing.T) {
	s := state{f: file.New()}.apply(t, some(0, 60)).synced()
	l := some(30, 60)
	all := s.apply(t, l)
	for i := range len(all.f.Loose) {
		for _, want := range []api.Errno{api.ErrIo, api.ErrOff} {
			f, _ := file.Refuse(s.f, i)
			if want == api.ErrOff {
				f, _ = file.Light(s.f, i)
			}
			g, x, err := batch.Apply(f, s.t, l)
			if err != want || x != s.t || len(g.Loose) != i || g.Off != (want == api.ErrOff) || g.Fault != -1 || g.Fuse != -1 {
				t.Fatalf("Apply whose Append %d fails = %v %d, %d pieces", i, x, err, len(g.Loose))
			}
			if tree.Check(g, s.t) != api.OK {
				t.Fatalf("the old tree is not valid after Append %d failed", i)
			}
			if g.Off {
				continue
			}
			state{g, s.t, s.items}.apply(t, l)
		}
	}
	full := s.f
	full.Firm = append(bytes.Clone(full.Firm), make([]byte, api.MaxFile-len(full.Firm)-300)...)
	g, x, err := batch.Apply(full, s.t, l)
	if err != api.ErrFull || x != s.t || tree.Check(g, s.t) != api.OK {
		t.Errorf("Apply in a full file = %v %d", x, err)
	}
}

// some returns edits that put n numbered keys from one on.
func some(from, n int) []api.Edit {
	var out []api.Edit
	for i := range n {
		out = append(out, api.Edit{Key: binary.BigEndian.AppendUint16([]byte("k"), uint16(from+i)), Put: true, Value: []byte{byte(i)}, Int: i%3 == 0, N: 0})
	}
	return out
}

// P17.2
func TestNodes(t *testing.T) {
	s := state{f: file.New()}.apply(t, some(0, 6*6*2))
	whole, err := batch.Nodes(s.f, s.t, 0)
	if err != api.OK || whole != len(s.f.Loose) {
		t.Errorf("Nodes from 0 = %d %d", whole, err)
	}
	next := s.apply(t, some(5, 1)[:1])
	for _, x := range []struct{ from, want int }{{math.MinInt, -1}, {0, -1}, {1, -1}, {next.t.At, 1}, {next.t.At + 1, 0}, {file.Len(next.f), 0}, {math.MaxInt, 0}} {
		n, err := batch.Nodes(next.f, next.t, x.from)
		if err != api.OK || x.want >= 0 && n != x.want || x.want < 0 && n < 13 {
			t.Errorf("Nodes from %d = %d %d", x.from, n, err)
		}
	}
	if n, err := batch.Nodes(s.f, api.Tree{}, 0); n != 0 || err != api.OK {
		t.Errorf("Nodes of the empty tree = %d %d", n, err)
	}
	if n, err := batch.Nodes(file.New(), api.Tree{}, -5); n != 0 || err != api.OK {
		t.Errorf("Nodes of the empty tree in an empty file = %d %d", n, err)
	}
}

// someEdits returns random edits of keys below limit, in order.
func someEdits(random *rand.Rand, n, limit, puts int) []api.Edit {
	var out []api.Edit
	for range n {
		key := binary.BigEndian.AppendUint16([]byte("k"), uint16(random.Intn(limit)))
		e := api.Edit{Key: key}
		if random.Intn(10) < puts {
			e.Put, e.Value, e.Int = true, bytes.Repeat([]byte("v"), random.Intn(4)), random.Intn(2) == 0
			if e.Int {
				e.N = random.Int63() - 1<<62
			}
		}
		out = append(out, e)
	}
	out, _ = merge.Sort(out)
	return out
}

// P17.1, P17.3: trees that grow and shrink by batches of all sizes.
func TestBatches(t *testing.T) {
	random := rand.New(rand.NewSource(17))
	for _, limit := range []int{10, 40, 300} {
		for range 6 {
			s := state{f: file.New()}
			for step := range 25 {
				puts := 8
				if step%10 > 5 {
					puts = 2
				}
				s = s.apply(t, someEdits(random, 1+random.Intn(limit), limit, puts)).synced()
				if file.Len(s.f) > api.MaxFile/2 {
					break
				}
			}
			var all []api.Edit
			for _, x := range s.items {
				all = append(all, api.Edit{Key: x.Key})
			}
			if none := s.apply(t, all); none.t != (api.Tree{}) {
				t.Errorf("without any items: %v", none.t)
			}
		}
	}
}

// P17.3: every run of keys is deleted from a tree, so that nodes of all sorts of sizes remain.
func TestRuns(t *testing.T) {
	s := state{f: file.New()}.apply(t, some(0, 50)).synced()
	for from := range 50 {
		for to := from + 1; to <= 50; to += 3 {
			l := some(from, to-from)
			for i := range l {
				l[i] = api.Edit{Key: l[i].Key}
			}
			s.apply(t, l)
		}
	}
}

// P17.3
func TestSingleEdits(t *testing.T) {
	random := rand.New(rand.NewSource(18))
	s := state{f: file.New()}
	for step := range 700 {
		puts := 7
		if step > 400 {
			puts = 3
		}
		next := s.apply(t, someEdits(random, 1, 200, puts)).synced()
		if next.t != s.t && next.t != (api.Tree{}) {
			most := 2 * (max(next.t.Depth, s.t.Depth) + 1)
			if next.t.Depth > s.t.Depth {
				most = 2*(s.t.Depth+1) + 1
			}
			if n := next.fresh(t, s); n > most || n < next.t.Depth && next.t.Depth == s.t.Depth {
				t.Fatalf("a single edit put %d nodes into a tree of depth %d", n, next.t.Depth)
			}
		}
		s = next
		if file.Len(s.f) > api.MaxFile-5000 {
			break
		}
	}
}

// freshByLevel counts the new nodes of a tree on each level.
func freshByLevel(t *testing.T, f api.File, at, depth, from int, counts []int) {
	t.Helper()
	n, err := tree.Load(f, at, depth)
	if err != api.OK {
		t.Fatalf("Load = %d", err)
	}
	if at >= from {
		counts[depth]++
	}
	for _, k := range n.Kids {
		freshByLevel(t, f, k.At, depth-1, from, counts)
	}
}

// P17.3: each key is deleted from, and one is put next to each key of, trees whose nodes have become small.
func TestSingleEditsOfSparseTrees(t *testing.T) {
	random := rand.New(rand.NewSource(20))
	for round := range 2 {
		s := state{f: file.New()}.apply(t, some(0, 200))
		var gone []api.Edit
		for i, x := range s.items {
			if random.Intn(3) < 2 && i%(20+round) > 3 {
				gone = append(gone, api.Edit{Key: x.Key})
			}
		}
		s = s.apply(t, gone).synced()
		for _, x := range s.items {
			for _, e := range []api.Edit{{Key: x.Key}, {Key: append(bytes.Clone(x.Key), 0), Put: true}} {
				f, y, err := batch.Apply(s.f, s.t, []api.Edit{e})
				if err != api.OK {
					t.Fatal(err)
				}
				counts := make([]int, y.Depth+1)
				freshByLevel(t, f, y.At, y.Depth, file.Len(s.f), counts)
				for depth, n := range counts {
					if n > 2 || depth > s.t.Depth && n > 1 {
						t.Fatalf("a single edit puts %v nodes", counts)
					}
				}
			}
		}
	}
}

// P17.3
func TestSeveralLists(t *testing.T) {
	random := rand.New(rand.NewSource(19))
	for range 30 {
		s := state{f: file.New()}.apply(t, someEdits(random, 40, 60, 9))
		a, b := someEdits(random, 20, 60, 5), someEdits(random, 20, 60, 5)
		both, _ := merge.Merge(a, b)
		if one, other := s.apply(t, a).apply(t, b), s.apply(t, both); !sameItems(one.items, other.items) || one.t.Red != other.t.Red {
			t.Fatalf("one after the other %q, at once %q", keys(one.items), keys(other.items))
		}
	}
}
