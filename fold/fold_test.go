package fold_test

import (
	"math"
	"math/rand"
	"testing"

	"davenport/api"
	"davenport/batch"
	"davenport/file"
	"davenport/fold"
	"davenport/merge"
	"davenport/monoid"
	"davenport/tree"
	"davenport/value"
)

// planted returns a file with a tree of items with one- or two-byte keys.
func planted(t *testing.T, items []api.Item) (api.File, api.Tree) {
	t.Helper()
	var l []api.Edit
	for _, x := range items {
		l = append(l, api.Edit{Key: x.Key, Put: true, Value: x.Value, Int: x.Int, N: x.N})
	}
	l, err := merge.Sort(l)
	f, x, e := batch.Apply(file.New(), api.Tree{}, l)
	if err != api.OK || e != api.OK || tree.Check(f, x) != api.OK {
		t.Fatalf("no tree: %d %d", err, e)
	}
	return f, x
}

// ones are the keys of a string, each with the number 1.
func ones(keys string) []api.Item {
	var out []api.Item
	for i := range len(keys) {
		out = append(out, api.Item{Key: []byte(keys[i : i+1]), Int: true, N: 1})
	}
	return out
}

func from(s string) api.Bounds {
	return api.Bounds{From: []byte(s)}
}

func between(a, b string) api.Bounds {
	return api.Bounds{From: []byte(a), Ends: true, To: []byte(b)}
}

var wrongFile = api.File{Fuse: -2, Fault: -1}

// P18.1, P18.2: the chapter's examples.
func TestExamples(t *testing.T) {
	f, x := planted(t, ones("abcdefg"))
	if r, n, err := fold.Fold(f, x, between("b", "e")); r != (api.Red{Count: 3, Ints: 3, Low: 3, Least: 1, Most: 1}) || n < 1 || n > 3 || err != api.OK {
		t.Errorf("Fold from b to e = %+v %d %d", r, n, err)
	}
	if r, n, err := fold.Fold(f, x, api.Bounds{}); r != x.Red || r.Count != 7 || n != 1 || err != api.OK {
		t.Errorf("Fold of all = %+v %d %d", r, n, err)
	}
	if r, n, err := fold.Fold(f, api.Tree{}, api.Bounds{}); r != (api.Red{}) || n != 0 || err != api.OK {
		t.Errorf("Fold of the empty tree = %+v %d %d", r, n, err)
	}
	if v, err := fold.Tell(f, x, from("d"), api.RdSum); !value.Same(v, value.Int(4)) || err != api.OK {
		t.Errorf("Tell from d = %v %d", v, err)
	}
	if v, err := fold.Tell(f, x, from("x"), api.RdLeast); !value.Same(v, value.Null()) || err != api.OK {
		t.Errorf("Tell from x = %v %d", v, err)
	}
	if v, err := fold.Tell(f, x, api.Bounds{}, 9); v.Kind != 0 || err != api.ErrArg {
		t.Errorf("Tell of kind 9 = %v %d", v, err)
	}
}

// P18.1, P18.2
func TestErrors(t *testing.T) {
	f, x := planted(t, ones("abcdefg"))
	if r, n, err := fold.Fold(wrongFile, x, api.Bounds{}); r != (api.Red{}) || n != 0 || err != api.ErrFile {
		t.Errorf("Fold in a wrong file = %+v %d %d", r, n, err)
	}
	if v, err := fold.Tell(wrongFile, api.Tree{}, api.Bounds{}, 9); v.Kind != 0 || err != api.ErrFile {
		t.Errorf("Tell in a wrong file = %v %d", v, err)
	}
	wrong := []api.Tree{{At: 7}, {Depth: 1}, {At: x.At, Depth: -1, Red: x.Red}, {At: x.At, Depth: 0, Red: x.Red}, {At: x.At, Depth: math.MaxInt, Red: x.Red}, {At: x.At + 1, Depth: 1, Red: x.Red}, {At: math.MinInt, Depth: 1}}
	for i, y := range wrong {
		if r, n, err := fold.Fold(f, y, between("b", "e")); err != api.OK && (err != api.ErrTree || n != 0 || r != (api.Red{})) {
			t.Errorf("Fold of wrong tree %d = %+v %d %d", i, r, n, err)
		}
		if v, err := fold.Tell(f, y, between("b", "e"), api.RdSum); err != api.OK && (err != api.ErrTree || v.Kind != 0) {
			t.Errorf("Tell of wrong tree %d = %v %d", i, v, err)
		}
	}
	great := []api.Item{{Key: []byte("a"), Int: true, N: math.MaxInt64}, {Key: []byte("b"), Int: true, N: 1}, {Key: []byte("c"), Int: true, N: -1}}
	f, x = planted(t, great)
	for _, y := range []struct {
		b    api.Bounds
		kind int
		want api.Value
		err  api.Errno
	}{
		{between("a", "c"), api.RdSum, api.Value{}, api.ErrOver}, {between("a", "c"), api.RdStats, api.Value{}, api.ErrOver}, {between("a", "c"), api.RdMost, value.Int(math.MaxInt64), api.OK}, {between("a", "c"), api.RdCount, value.Int(2), api.OK},
		{api.Bounds{}, api.RdSum, value.Int(math.MaxInt64), api.OK}, {from("b"), api.RdSum, value.Int(0), api.OK}, {between("c", "a"), api.RdSum, value.Int(0), api.OK}, {between("a", "c"), 0, api.Value{}, api.ErrArg},
	} {
		if v, err := fold.Tell(f, x, y.b, y.kind); err != y.err || err == api.OK && !value.Same(v, y.want) || err != api.OK && v.Kind != 0 {
			t.Errorf("Tell of kind %d in %v = %v %d", y.kind, y.b, v, err)
		}
	}
}

// P18.1 to P18.3: trees of several depths, and all bounds at and between their keys.
func TestAllBounds(t *testing.T) {
	random := rand.New(rand.NewSource(18))
	for _, size := range []int{1, 5, 7, 20, 45, 100, 250} {
		var items []api.Item
		for i := range size {
			x := api.Item{Key: []byte{byte(i), 7}, Int: random.Intn(4) > 0}
			if x.Int {
				x.N = random.Int63() - 1<<62
			}
			items = append(items, x)
		}
		f, x := planted(t, items)
		points := [][]byte{{}, {0}, {255}}
		for range 22 {
			i := byte(random.Intn(size))
			points = append(points, []byte{i}, []byte{i, 7}, []byte{i, 7, 0})
		}
		for _, a := range points {
			for i, b := range points {
				bounds := api.Bounds{From: a, Ends: i > 0, To: b}
				var parts []api.Red
				for _, y := range items {
					if tree.Within(bounds, y.Key) {
						parts = append(parts, monoid.One(y))
					}
				}
				want, _ := monoid.Join(parts...)
				got, nodes, err := fold.Fold(f, x, bounds)
				if got != want || err != api.OK || nodes < 1 || nodes > 1+2*x.Depth {
					t.Fatalf("Fold of %v in %d items = %+v, %d nodes, %d, want %+v", bounds, size, got, nodes, err, want)
				}
				kind := api.RdCount + i%5
				wantValue, wantErr := monoid.Tell(kind, want)
				if v, err := fold.Tell(f, x, bounds, kind); err != wantErr || err == api.OK && !value.Same(v, wantValue) {
					t.Fatalf("Tell of %v = %v %d", bounds, v, err)
				}
				if !bounds.Ends || string(a) > string(b) {
					continue
				}
				left, _, _ := fold.Fold(f, x, api.Bounds{Ends: true, To: a})
				right, _, _ := fold.Fold(f, x, api.Bounds{From: b})
				if all, err := monoid.Join(left, got, right); all != x.Red || err != api.OK {
					t.Fatalf("the parts at %v are joined to %+v", bounds, all)
				}
			}
		}
		if r, n, err := fold.Fold(f, x, api.Bounds{From: []byte{}, To: []byte("a")}); r != x.Red || n != 1 || err != api.OK {
			t.Errorf("Fold of all %d items = %+v %d %d", size, r, n, err)
		}
	}
}
