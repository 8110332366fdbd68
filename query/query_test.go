package query_test

import (
	"bytes"
	"math"
	"slices"
	"strings"
	"testing"

	"davenport/api"
	"davenport/batch"
	"davenport/collate"
	"davenport/file"
	"davenport/merge"
	"davenport/monoid"
	"davenport/parse"
	"davenport/print"
	"davenport/query"
	"davenport/rows"
	"davenport/sample"
	"davenport/value"
)

func read(t *testing.T, text string) api.Value {
	t.Helper()
	v, at, err := parse.Parse([]byte(text))
	if err != api.OK {
		t.Fatalf("%s: %d %d", text, at, err)
	}
	return v
}

func show(v api.Value) string {
	s, _ := print.Print(v)
	return s
}

func plant(t *testing.T, items []api.Item) (api.File, api.Tree) {
	t.Helper()
	var l []api.Edit
	for _, x := range items {
		l = append(l, api.Edit{Key: x.Key, Put: true, Value: x.Value, Int: x.Int, N: x.N})
	}
	l, _ = merge.Sort(l)
	f, x, err := batch.Apply(file.New(), api.Tree{}, l)
	if err != api.OK {
		t.Fatal(err)
	}
	return f, x
}

// planted returns a tree of rows, and the rows in the order of their items.
func planted(t *testing.T, l []api.Row) (api.File, api.Tree, []api.Row) {
	t.Helper()
	var items []api.Item
	for _, r := range l {
		x, err := rows.Item(r)
		if err != api.OK {
			t.Fatal(err)
		}
		items = append(items, x)
	}
	l = slices.Clone(l)
	slices.SortFunc(l, func(a, b api.Row) int {
		x, _ := rows.Item(a)
		y, _ := rows.Item(b)
		return bytes.Compare(x.Key, y.Key)
	})
	f, x := plant(t, items)
	return f, x, l
}

// keyed returns a row for each Key, each of a different document and with the number 1.
func keyed(t *testing.T, keys ...string) []api.Row {
	var out []api.Row
	for i, k := range keys {
		out = append(out, api.Row{Key: read(t, k), Id: sample.Name(i), Value: value.Int(1)})
	}
	return out
}

func keysOf(l []api.Row) string {
	var out []string
	for _, r := range l {
		out = append(out, show(r.Key))
	}
	return strings.Join(out, " ")
}

func groupsOf(l []api.Group) string {
	var out []string
	for _, g := range l {
		out = append(out, show(g.Key)+" "+show(g.Value))
	}
	return strings.Join(out, "; ")
}

var all = api.Ask{Most: -1, Level: -1}

// P28.2, P28.3: the chapter's examples.
func TestExamples(t *testing.T) {
	f, x, _ := planted(t, keyed(t, "1", "2", "[1]", "[1,2]", "[1,3]", "[2,1]"))
	with := func(change func(a *api.Ask)) api.Ask {
		a := all
		change(&a)
		return a
	}
	span := func(a *api.Ask) {
		a.HasFrom, a.From, a.HasTo, a.To = true, read(t, "2"), true, read(t, "[1,2]")
	}
	for _, y := range []struct {
		a    api.Ask
		want string
	}{
		{with(span), "2 [1] [1,2]"}, {with(func(a *api.Ask) { span(a); a.After, a.Ahead = true, true }), "[1]"}, {with(func(a *api.Ask) { a.Turned, a.Most = true, 1 }), "[2,1]"}, {all, "1 2 [1] [1,2] [1,3] [2,1]"}, {with(func(a *api.Ask) { a.Kind = 77 }), "1 2 [1] [1,2] [1,3] [2,1]"}, {with(func(a *api.Ask) { a.Level, a.Kind, a.Most = 3, api.RdSum, 2 }), "1 2"},
	} {
		if l, err := query.Rows(f, x, y.a); keysOf(l) != y.want || err != api.OK {
			t.Errorf("Rows = %s %d, want %s", keysOf(l), err, y.want)
		}
	}
	for _, y := range []struct {
		a    api.Ask
		want string
	}{
		{with(func(a *api.Ask) { a.Level, a.Kind = 1, api.RdSum }), "1 1; 2 1; [1] 3; [2] 1"}, {with(func(a *api.Ask) { a.Level, a.Kind = 0, api.RdCount }), "null 6"}, {with(func(a *api.Ask) { a.Level, a.Kind, a.HasFrom, a.From = 0, api.RdCount, true, read(t, "{}") }), ""}, {with(func(a *api.Ask) { a.Level, a.Kind, a.Turned, a.Most = 1, api.RdSum, true, 1 }), "[2] 1"},
		{with(func(a *api.Ask) { a.Level, a.Kind = 2, api.RdCount }), "1 1; 2 1; [1] 1; [1,2] 1; [1,3] 1; [2,1] 1"}, {with(func(a *api.Ask) { a.Level, a.Kind = 255, api.RdCount }), "1 1; 2 1; [1] 1; [1,2] 1; [1,3] 1; [2,1] 1"}, {with(func(a *api.Ask) { a.Level, a.Kind = 0, api.RdStats }), `null {"count":6,"max":1,"min":1,"numbers":6,"sum":6}`},
	} {
		if l, err := query.Groups(f, x, y.a); groupsOf(l) != y.want || err != api.OK {
			t.Errorf("Groups = %s %d, want %s", groupsOf(l), err, y.want)
		}
	}
}

// wrongAsks are queries that are not valid.
func wrongAsks() []api.Ask {
	out := []api.Ask{{Level: -2}, {Level: -2, Kind: api.RdSum}, {Level: 256, Kind: api.RdSum}, {Level: math.MinInt}, {Level: math.MaxInt, Kind: api.RdSum}, {Level: 0}, {Level: 0, Kind: 9}, {Level: 5, Kind: -1}, {Level: 1, Kind: 6}, {Level: -1, HasFrom: true}, {Level: -1, HasTo: true}, {Level: 0, Kind: api.RdSum, HasFrom: true, From: sample.Nest(9)}}
	for _, v := range sample.Wrong() {
		out = append(out, api.Ask{Level: -1, HasFrom: true, From: v}, api.Ask{Level: -1, HasTo: true, To: v, HasFrom: true, From: value.Null()})
	}
	return out
}

// P28.1
func TestCheckAndHolds(t *testing.T) {
	for _, a := range []api.Ask{all, {}, {Level: -1, Kind: 99}, {Level: -1, Kind: -3, Most: math.MinInt}, {Level: 0, Kind: api.RdCount}, {Level: 255, Kind: api.RdStats, Most: math.MaxInt}, {Level: -1, From: api.Value{Kind: 99}, To: api.Value{Kind: -1}, After: true, Ahead: true}, {Level: 7, Kind: api.RdMost, HasFrom: true, From: sample.Nest(8), HasTo: true, To: value.Null(), Turned: true}} {
		want := api.OK
		if a.Level == 0 && a.Kind == 0 {
			want = api.ErrAsk
		}
		if err := query.Check(a); err != want {
			t.Errorf("Check(%v) = %d", a, err)
		}
	}
	for i, a := range wrongAsks() {
		if err := query.Check(a); err != api.ErrAsk || query.Holds(a, value.Int(1)) {
			t.Errorf("Check of wrong query %d = %d", i, err)
		}
	}
	keys := []string{"null", "1", "2", "3", `"a"`, "[1]"}
	for i, from := range keys {
		for j, to := range keys {
			for bits := range 16 {
				a := api.Ask{Level: -1, HasFrom: bits&1 > 0, HasTo: bits&2 > 0, After: bits&4 > 0, Ahead: bits&8 > 0, From: read(t, from), To: read(t, to)}
				for k, key := range keys {
					want := (!a.HasFrom || k > i || k == i && !a.After) && (!a.HasTo || k < j || k == j && !a.Ahead)
					if query.Holds(a, read(t, key)) != want {
						t.Errorf("Holds(%v, %s) = %v", a, key, !want)
					}
				}
			}
		}
	}
	for i, v := range sample.Wrong() {
		if query.Holds(all, v) {
			t.Errorf("Holds of wrong value %d", i)
		}
	}
	if !query.Holds(all, sample.Nest(8)) {
		t.Error("Holds of a deep value")
	}
}

// P28.2, P28.3
func TestErrors(t *testing.T) {
	f, x, _ := planted(t, keyed(t, "1", "2", "[1]"))
	wrongFile := f
	wrongFile.Fuse = -2
	item, _ := rows.Item(keyed(t, "5")[0])
	g, noRows := plant(t, []api.Item{item, {Key: []byte("x")}})
	h, notItem := plant(t, []api.Item{{Key: item.Key, Value: []byte("1")}})
	moved, red := x, x
	moved.At++
	red.Red.Count++
	for i, a := range append(wrongAsks(), all) {
		want := api.ErrAsk
		if i == len(wrongAsks()) {
			want = api.OK
		}
		for _, y := range []struct {
			f   api.File
			t   api.Tree
			err api.Errno
		}{{wrongFile, moved, api.ErrFile}, {f, moved, api.ErrTree}, {f, red, api.ErrTree}, {g, noRows, api.ErrTree}, {h, notItem, api.ErrTree}, {f, x, want}, {f, api.Tree{}, want}} {
			if l, err := query.Rows(y.f, y.t, a); err != y.err || err != api.OK && len(l) != 0 {
				t.Errorf("Rows of query %d = %v %d, want %d", i, l, err, y.err)
			}
			if y.err == api.OK {
				y.err = api.ErrAsk // Level -1 has no groups
			}
			if l, err := query.Groups(y.f, y.t, a); err != y.err || len(l) != 0 {
				t.Errorf("Groups of query %d = %v %d, want %d", i, l, err, y.err)
			}
		}
	}
}

// P28.3
func TestOverflow(t *testing.T) {
	var l []api.Row
	for i, n := range []int64{5, math.MaxInt64, 1, 7} {
		key := []string{"[1,0]", "[2,0]", "[2,1]", "[3,0]"}[i]
		l = append(l, api.Row{Key: read(t, key), Id: "a", Which: i, Value: value.Int(n)})
	}
	f, x, _ := planted(t, l)
	for _, y := range []struct {
		a    api.Ask
		want string
		err  api.Errno
	}{
		{api.Ask{Level: 1, Kind: api.RdSum, Most: -1}, "", api.ErrOver}, {api.Ask{Level: 1, Kind: api.RdStats, Most: 2}, "", api.ErrOver}, {api.Ask{Level: 1, Kind: api.RdSum, Most: 1}, "[1] 5", api.OK}, {api.Ask{Level: 1, Kind: api.RdSum, Most: 1, Turned: true}, "[3] 7", api.OK}, {api.Ask{Level: 1, Kind: api.RdSum, Most: 2, Turned: true}, "", api.ErrOver}, {api.Ask{Level: 1, Kind: api.RdSum, Most: 0}, "", api.OK}, {api.Ask{Level: 0, Kind: api.RdSum, Most: 1}, "", api.ErrOver}, {api.Ask{Level: 0, Kind: api.RdSum}, "", api.OK},
		{api.Ask{Level: 2, Kind: api.RdSum, Most: -1}, "[1,0] 5; [2,0] 9223372036854775807; [2,1] 1; [3,0] 7", api.OK}, {api.Ask{Level: 1, Kind: api.RdMost, Most: -1}, "[1] 5; [2] 9223372036854775807; [3] 7", api.OK}, {api.Ask{Level: 1, Kind: api.RdSum, Most: -1, HasFrom: true, From: read(t, "[2,0]"), After: true}, "[2] 1; [3] 7", api.OK},
	} {
		if l, err := query.Groups(f, x, y.a); groupsOf(l) != y.want || err != y.err {
			t.Errorf("Groups(%v) = %s %d, want %s %d", y.a, groupsOf(l), err, y.want, y.err)
		}
	}
}

// selected are the rows that a query selects.
func selected(l []api.Row, a api.Ask) []api.Row {
	var out []api.Row
	for _, r := range l {
		if query.Holds(a, r.Key) {
			out = append(out, r)
		}
	}
	return out
}

// grouped are the groups of rows in order, and false if one of the first overflows.
func grouped(l []api.Row, a api.Ask) ([]api.Group, bool) {
	var out []api.Group
	var reds [][]api.Red
	for _, r := range l {
		key := value.Null()
		if a.Level > 0 {
			key, _ = collate.Front(r.Key, a.Level)
		}
		n := len(out)
		if n == 0 || !value.Same(out[n-1].Key, key) {
			out, reds = append(out, api.Group{Key: key}), append(reds, nil)
			n++
		}
		x, _ := rows.Item(r)
		reds[n-1] = append(reds[n-1], monoid.One(x))
	}
	if a.Turned {
		slices.Reverse(out)
		slices.Reverse(reds)
	}
	if a.Most >= 0 {
		out = out[:min(len(out), a.Most)]
	}
	for i := range out {
		red, _ := monoid.Join(reds[i]...)
		v, err := monoid.Tell(a.Kind, red)
		if err != api.OK {
			return nil, false
		}
		out[i].Value = v
	}
	return out, true
}

// P28.2 to P28.4: random rows and queries, against lists.
func TestQueries(t *testing.T) {
	random := sample.New(28)
	key := func() api.Value {
		if random.Below(4) == 0 {
			return random.Value(2)
		}
		v := api.Value{Kind: api.VList}
		for range random.Below(4) {
			kid := value.Int(int64(random.Below(3)))
			if random.Below(4) == 0 {
				kid = random.Value(1)
			}
			v.Kids = append(v.Kids, kid)
		}
		return v
	}
	for size := range 40 {
		var l []api.Row
		for i := range 4 * size {
			v := value.Int(int64(random.Below(9)))
			switch random.Below(12) {
			case 0:
				v = value.Null()
			case 1:
				v = value.Int(math.MaxInt64)
			}
			r := api.Row{Key: key(), Id: sample.Name(i / 4), Which: i % 4, Value: v}
			if rows.Check(r) == api.OK {
				l = append(l, r)
			}
		}
		f, x, l := planted(t, l)
		for range 60 {
			a := api.Ask{HasFrom: random.Below(2) == 0, HasTo: random.Below(2) == 0, From: key(), To: key(), After: random.Below(2) == 0, Ahead: random.Below(2) == 0, Turned: random.Below(2) == 0, Most: random.Below(9) - 1, Level: random.Below(5) - 1, Kind: api.RdCount + random.Below(5)}
			if len(l) > 0 && random.Below(2) == 0 {
				a.From, a.To = l[random.Below(len(l))].Key, l[random.Below(len(l))].Key
			}
			want := selected(l, a)
			if a.Level >= 0 {
				groups, fits := grouped(want, a)
				wantErr := api.OK
				if !fits {
					wantErr = api.ErrOver
				}
				if got, err := query.Groups(f, x, a); groupsOf(got) != groupsOf(groups) || err != wantErr {
					t.Fatalf("Groups(%v) = %s %d, want %s %d", a, groupsOf(got), err, groupsOf(groups), wantErr)
				}
			}
			if a.Turned {
				slices.Reverse(want)
			}
			if a.Most >= 0 {
				want = want[:min(len(want), a.Most)]
			}
			got, err := query.Rows(f, x, a)
			same := slices.EqualFunc(got, want, func(x, y api.Row) bool {
				return value.Same(x.Key, y.Key) && x.Id == y.Id && x.Which == y.Which && value.Same(x.Value, y.Value)
			})
			if !same || err != api.OK {
				t.Fatalf("Rows(%v) = %s %d, want %s", a, keysOf(got), err, keysOf(want))
			}
		}
	}
}
