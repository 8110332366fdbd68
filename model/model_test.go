package model_test

import (
	"math"
	"slices"
	"strings"
	"testing"

	"davenport/api"
	"davenport/db"
	"davenport/doc"
	"davenport/feed"
	"davenport/file"
	"davenport/model"
	"davenport/numeral"
	"davenport/sample"
	"davenport/value"
	"davenport/view"
)

var rowsAsk = api.Ask{Level: -1, Most: -1}

func sameReply(a, b api.Reply) bool {
	rows := slices.EqualFunc(a.Rows, b.Rows, func(x, y api.Row) bool {
		return value.Same(x.Key, y.Key) && x.Id == y.Id && x.Which == y.Which && value.Same(x.Value, y.Value)
	})
	groups := slices.EqualFunc(a.Groups, b.Groups, func(x, y api.Group) bool {
		return value.Same(x.Key, y.Key) && value.Same(x.Value, y.Value)
	})
	return rows && groups && a.Err == b.Err && a.Place == b.Place && a.Rev == b.Rev && a.Body == b.Body && a.Seq == b.Seq && a.Token == b.Token && slices.Equal(a.Changes, b.Changes)
}

func do(t *testing.T, m api.Model, op api.Op) (api.Model, api.Reply) {
	t.Helper()
	n, r := model.Do(m, op)
	if r.Err != api.OK || model.Check(n) != api.OK {
		t.Fatalf("Do(%v) = %v", op, r)
	}
	return n, r
}

func put(id, rev, text string) api.Op {
	return api.Op{Kind: api.OpPut, Id: id, Rev: rev, Text: text}
}

// P30.2, P30.3: the chapter's examples.
func TestExamples(t *testing.T) {
	m, r := do(t, api.Model{}, put("a", "", `{"v":1}`))
	if r.Seq != 1 || r.Rev[:2] != "1-" {
		t.Errorf("OpPut = %v", r)
	}
	m, r = do(t, m, api.Op{Kind: api.OpDefine, Id: "v", Text: "emit doc.v,id;"})
	if r.Seq != 1 {
		t.Errorf("OpDefine = %v", r)
	}
	m, r = do(t, m, api.Op{Kind: api.OpQuery, Id: "v", Ask: rowsAsk})
	if len(r.Rows) != 1 || r.Rows[0].Key.N != 1 || r.Rows[0].Id != "a" || r.Seq != 1 {
		t.Errorf("OpQuery = %v", r)
	}
	if l, err := model.Rows(m, "v"); len(l) != 1 || l[0].Key.N != 1 || l[0].Value.S != "a" || err != api.OK {
		t.Errorf("Rows(v) = %v %d", l, err)
	}
	for _, name := range []string{"w", "", "V", "a"} {
		if l, err := model.Rows(m, name); len(l) != 0 || err != api.ErrNone {
			t.Errorf("Rows(%s) = %v %d", name, l, err)
		}
	}
}

// P30.2 to P30.4: the model and the database in step, with all sorts of operations.
func TestNextToTheDatabase(t *testing.T) {
	for seed := range uint64(8) {
		random, past := sample.New(30+seed), sample.NewPast()
		d, err := db.Format(file.New())
		if err != api.OK {
			t.Fatal(err)
		}
		m := api.Model{}
		for range 150 {
			op := random.Op(past)
			before := api.Model{Docs: slices.Clone(m.Docs), Views: slices.Clone(m.Views), Seq: m.Seq}
			e, want := db.Do(d, op)
			n, got := model.Do(m, op)
			if !sameReply(got, want) {
				t.Fatalf("Do(%v) = %v, the database replies %v", op, got, want)
			}
			if !model.Same(m, before) {
				t.Fatalf("Do(%v) changes its argument", op)
			}
			if model.Check(n) != api.OK || got.Err != api.OK && !model.Same(m, n) {
				t.Fatalf("Do(%v) leads to a wrong model", op)
			}
			past.Note(op, got)
			for _, v := range e.Views {
				l, err := model.Rows(n, v.Name)
				f, w, caught := view.Catch(e.File, e.Coll, v)
				all, _ := view.All(f, e.Coll, w)
				if err != api.OK || caught != api.OK || !sameReply(api.Reply{Rows: l}, api.Reply{Rows: all}) {
					t.Fatalf("Rows(%s) = %v %d, the view has %v %d", v.Name, l, err, all, caught)
				}
			}
			d, m = e, n
			if file.Len(d.File) > api.MaxFile-api.MaxNeed {
				break
			}
		}
	}
}

// P30.2: what the database could not reach in a test.
func TestLimits(t *testing.T) {
	last := api.Rev{Gen: math.MaxUint32, Mark: 1}
	text, _ := doc.RevText(last)
	m := api.Model{Seq: 5, Docs: []api.Known{{Id: "a", Rev: last, Seq: 1, Body: value.Null()}, {Id: "b", Rev: last, Seq: 2, Deleted: true}}}
	end := m
	end.Seq = api.MaxSeq
	for _, x := range []struct {
		m   api.Model
		op  api.Op
		err api.Errno
	}{
		{m, put("a", text, "1"), api.ErrOver}, {m, put("b", "", "1"), api.ErrOver}, {m, put("a", "", "1"), api.ErrConflict}, {m, put("b", text, "1"), api.ErrConflict}, {m, api.Op{Kind: api.OpDelete, Id: "a", Rev: text}, api.ErrOver}, {m, api.Op{Kind: api.OpDelete, Id: "b", Rev: text}, api.ErrNone}, {m, api.Op{Kind: api.OpDelete, Id: "b", Rev: "x"}, api.ErrRev},
		{end, put("c", "", "1"), api.ErrFull}, {end, put("a", text, "1"), api.ErrOver}, {end, put("c", "", "["), api.ErrShort}, {end, put("c", text, "1"), api.ErrConflict},
	} {
		n, r := model.Do(x.m, x.op)
		if r.Err != x.err || !model.Same(n, x.m) || r.Rev != "" || r.Seq != 0 {
			t.Errorf("Do(%v) = %v, want %d", x.op, r, x.err)
		}
	}
	n, r := do(t, api.Model{Seq: api.MaxSeq - 1}, put("c", "", "1"))
	if n.Seq != api.MaxSeq || r.Seq != api.MaxSeq {
		t.Errorf("Do with the last Seq = %v", r)
	}
	if _, r = model.Do(n, api.Op{Kind: api.OpDelete, Id: "c", Rev: r.Rev}); r.Err != api.ErrFull {
		t.Errorf("Delete after the last Seq = %v", r)
	}
	do(t, n, api.Op{Kind: api.OpDefine, Id: "v"})
	many := api.Model{}
	for i := range api.MaxDocs {
		many, _ = do(t, many, put(sample.Name(i), "", "1"))
	}
	if _, r := model.Do(many, put("x", "", "1")); r.Err != api.ErrDocs {
		t.Errorf("Put of one more document = %v", r)
	}
	if _, r := model.Do(many, put("x", "1-00000000", "1")); r.Err != api.ErrConflict {
		t.Errorf("Put of one more document with a revision = %v", r)
	}
	for i := range api.MaxViews {
		many, _ = do(t, many, api.Op{Kind: api.OpDefine, Id: sample.Name(i), Text: "emit doc,id;"})
	}
	for _, x := range []struct {
		id, text string
		err      api.Errno
		place    int
	}{{"x", "", api.ErrViews, 0}, {"d1", "", api.ErrThere, 0}, {"x", "emit", api.ErrSyntax, 4}, {"X", "emit", api.ErrId, 0}, {"d1", "emit x,1;", api.ErrUnbound, 0}} {
		if _, r := model.Do(many, api.Op{Kind: api.OpDefine, Id: x.id, Text: x.text}); r.Err != x.err || r.Place != x.place {
			t.Errorf("Define(%s, %s) = %v", x.id, x.text, r)
		}
	}
}

func base() api.Model {
	one := api.Rev{Gen: 1}
	return api.Model{Seq: 9, Docs: []api.Known{{Id: "a", Rev: one, Seq: 1, Body: value.Int(1)}, {Id: "b", Rev: one, Seq: 9, Deleted: true}, {Id: "c", Rev: api.Rev{Gen: 3, Mark: 4}, Seq: 5, Body: value.Null()}}, Views: []api.Sight{{Name: "v", Source: "emit doc,id;"}, {Name: "w"}}}
}

// P30.1, P30.2, P30.3: each thing that a valid model must have is taken from it.
func TestCheck(t *testing.T) {
	long := api.Value{Kind: api.VText, S: strings.Repeat("x", api.MaxJson-1)}
	fits := api.Value{Kind: api.VText, S: strings.Repeat("x", api.MaxJson-2)}
	wrong := []func(m *api.Model){
		func(m *api.Model) { m.Seq = 8 }, func(m *api.Model) { m.Seq = api.MaxSeq + 1 }, func(m *api.Model) { m.Seq = math.MaxUint64 },
		func(m *api.Model) { m.Docs[0].Id = "" }, func(m *api.Model) { m.Docs[0].Id = "A" }, func(m *api.Model) { m.Docs[0].Id = "b" }, func(m *api.Model) { m.Docs[0].Id = "d" }, func(m *api.Model) { m.Docs[2].Id = "b" },
		func(m *api.Model) { m.Docs[0].Rev = api.Rev{} }, func(m *api.Model) { m.Docs[0].Rev = api.Rev{Mark: 1} }, func(m *api.Model) { m.Docs[1].Rev = api.Rev{} },
		func(m *api.Model) { m.Docs[0].Seq = 0 }, func(m *api.Model) { m.Docs[0].Seq = 9 }, func(m *api.Model) { m.Docs[0].Seq = 10 }, func(m *api.Model) { m.Docs[1].Seq = 1 }, func(m *api.Model) { m.Docs[1].Seq = 0 },
		func(m *api.Model) { m.Docs[0].Body = api.Value{} }, func(m *api.Model) { m.Docs[0].Body = long }, func(m *api.Model) { m.Docs[0].Body = sample.Nest(9) }, func(m *api.Model) { m.Docs[0].Deleted = true }, func(m *api.Model) { m.Docs[1].Body = value.Null() }, func(m *api.Model) { m.Docs[1].Body = api.Value{N: 1} }, func(m *api.Model) { m.Docs[1].Body = api.Value{S: "x"} }, func(m *api.Model) { m.Docs[1].Body = api.Value{Keys: []string{"x"}} }, func(m *api.Model) { m.Docs[1].Deleted = false },
		func(m *api.Model) { m.Views[0].Name = "V" }, func(m *api.Model) { m.Views[0].Name = "w" }, func(m *api.Model) { m.Views[0].Name = "x" }, func(m *api.Model) { m.Views[1].Name = "" }, func(m *api.Model) { m.Views[0].Source = "emit" }, func(m *api.Model) { m.Views[1].Source = "emit x,1;" },
		func(m *api.Model) {
			m.Views = []api.Sight{{Name: "a"}, {Name: "b"}, {Name: "c"}, {Name: "d"}, {Name: "e"}}
		},
		func(m *api.Model) {
			m.Docs = nil
			for i := range api.MaxDocs + 1 {
				m.Docs = append(m.Docs, api.Known{Id: string([]byte{'a', byte('a' + i/10), byte('0' + i%10)}), Rev: api.Rev{Gen: 1}, Seq: uint64(i + 1), Deleted: true})
			}
			m.Seq = 99
		},
	}
	for i, change := range wrong {
		m := base()
		change(&m)
		if err := model.Check(m); err != api.ErrModel || model.Same(m, m) || model.Same(m, base()) || model.Same(base(), m) {
			t.Errorf("Check of wrong model %d = %d", i, err)
		}
		for _, op := range []api.Op{put("x", "", "1"), {Kind: 99}, {Kind: api.OpGet, Id: "A"}} {
			n, r := model.Do(m, op)
			if !sameReply(r, api.Reply{Err: api.ErrModel}) || n.Seq != m.Seq || len(n.Docs) != len(m.Docs) || len(n.Views) != len(m.Views) {
				t.Errorf("Do with wrong model %d = %v", i, r)
			}
		}
		if l, err := model.Rows(m, "nothing"); len(l) != 0 || err != api.ErrModel {
			t.Errorf("Rows of wrong model %d = %d", i, err)
		}
	}
	for i, m := range []api.Model{{}, base(), {Seq: api.MaxSeq}, {Seq: 1, Docs: []api.Known{{Id: "a", Rev: api.Rev{Gen: 1}, Seq: 1, Body: fits}}}} {
		if err := model.Check(m); err != api.OK || !model.Same(m, m) {
			t.Errorf("Check of model %d = %d", i, err)
		}
	}
}

// P30.2: each error, and that it is before those named after it.
func TestErrors(t *testing.T) {
	m := base()
	for _, x := range []struct {
		op    api.Op
		err   api.Errno
		place int
	}{
		{put("A", "x", "["), api.ErrId, 0}, {put("a", "x", "[1,]"), api.ErrForm, 3}, {put("a", "x", "1"), api.ErrRev, 0}, {put("a", "", "1"), api.ErrConflict, 0}, {put("b", "1-00000000", "1"), api.ErrConflict, 0},
		{api.Op{Kind: api.OpDelete, Id: "A", Rev: "x"}, api.ErrId, 0}, {api.Op{Kind: api.OpDelete, Id: "x", Rev: "x"}, api.ErrRev, 0}, {api.Op{Kind: api.OpDelete, Id: "x", Rev: "1-00000000"}, api.ErrNone, 0}, {api.Op{Kind: api.OpDelete, Id: "b"}, api.ErrNone, 0}, {api.Op{Kind: api.OpDelete, Id: "a"}, api.ErrConflict, 0},
		{api.Op{Kind: api.OpGet, Id: "A"}, api.ErrId, 0}, {api.Op{Kind: api.OpGet, Id: "b"}, api.ErrNone, 0}, {api.Op{Kind: api.OpGet, Id: "x"}, api.ErrNone, 0},
		{api.Op{Kind: api.OpDefine, Id: "V", Text: "emit"}, api.ErrId, 0}, {api.Op{Kind: api.OpDefine, Id: "v", Text: "emit"}, api.ErrSyntax, 4}, {api.Op{Kind: api.OpDefine, Id: "v"}, api.ErrThere, 0},
		{api.Op{Kind: api.OpDrop, Id: "V"}, api.ErrId, 0}, {api.Op{Kind: api.OpDrop, Id: "a"}, api.ErrNone, 0},
		{api.Op{Kind: api.OpQuery, Id: "V", Ask: api.Ask{}}, api.ErrId, 0}, {api.Op{Kind: api.OpQuery, Id: "a", Ask: api.Ask{}}, api.ErrNone, 0}, {api.Op{Kind: api.OpQuery, Id: "v", Ask: api.Ask{}}, api.ErrAsk, 0},
		{api.Op{Kind: api.OpChanges, Token: "x"}, api.ErrArg, 0}, {api.Op{Kind: api.OpChanges, Token: "x", Most: 1}, api.ErrToken, 0}, {api.Op{Kind: 0, Id: "a"}, api.ErrArg, 0}, {api.Op{Kind: 8, Id: "a"}, api.ErrArg, 0}, {api.Op{Kind: math.MinInt}, api.ErrArg, 0},
	} {
		if n, r := model.Do(m, x.op); !sameReply(r, api.Reply{Err: x.err, Place: x.place}) || !model.Same(m, n) {
			t.Errorf("Do(%v) = %v, want %d at %d", x.op, r, x.err, x.place)
		}
	}
	last, _ := feed.Token(10)
	if _, r := model.Do(m, api.Op{Kind: api.OpChanges, Token: last, Most: 1}); r.Err != api.ErrToken {
		t.Errorf("changes after the last Seq = %v", r)
	}
}

// P30.2: rows and groups, in both directions, all of them and the first ones.
func TestQueries(t *testing.T) {
	m := api.Model{}
	for i, text := range []string{`{"k":[1,1],"n":9223372036854775807}`, `{"k":[1,2],"n":1}`, `{"k":[2,1],"n":5}`, `{"k":"x","n":null}`} {
		m, _ = do(t, m, put(sample.Name(i), "", text))
	}
	m, _ = do(t, m, api.Op{Kind: api.OpDefine, Id: "v", Text: "emit doc.k,doc.n;"})
	for _, x := range []struct {
		a    api.Ask
		want string
		err  api.Errno
	}{
		{rowsAsk, "d3 d0 d1 d2", api.OK}, {api.Ask{Level: -1, Most: 0}, "", api.OK}, {api.Ask{Level: -1, Most: 2}, "d3 d0", api.OK}, {api.Ask{Level: -1, Most: 9}, "d3 d0 d1 d2", api.OK}, {api.Ask{Level: -1, Most: 3, Turned: true}, "d2 d1 d0", api.OK}, {api.Ask{Level: -1, Most: -1, HasFrom: true, From: api.Value{Kind: api.VText, S: "x"}, After: true}, "d0 d1 d2", api.OK},
		{api.Ask{Level: 1, Kind: api.RdCount, Most: -1}, "1 2 1", api.OK}, {api.Ask{Level: 0, Kind: api.RdCount, Most: -1}, "4", api.OK}, {api.Ask{Level: 2, Kind: api.RdCount, Most: 2}, "1 1", api.OK}, {api.Ask{Level: 1, Kind: api.RdSum, Most: 1}, "0", api.OK}, {api.Ask{Level: 1, Kind: api.RdSum, Most: 0}, "", api.OK}, {api.Ask{Level: 1, Kind: api.RdSum, Most: 1, Turned: true}, "5", api.OK}, {api.Ask{Level: 1, Kind: api.RdSum, Most: 2}, "", api.ErrOver}, {api.Ask{Level: 1, Kind: api.RdSum, Most: 2, Turned: true}, "", api.ErrOver}, {api.Ask{Level: 0, Kind: api.RdStats, Most: -1}, "", api.ErrOver}, {api.Ask{Level: 1, Kind: api.RdMost, Most: -1, HasTo: true, To: value.Null()}, "", api.OK},
	} {
		n, r := model.Do(m, api.Op{Kind: api.OpQuery, Id: "v", Ask: x.a})
		var got []string
		for _, y := range r.Rows {
			got = append(got, y.Id)
		}
		for _, y := range r.Groups {
			got = append(got, numeral.Print(y.Value.N))
		}
		if strings.Join(got, " ") != x.want || r.Err != x.err || !model.Same(m, n) || (r.Seq == 4) != (x.err == api.OK) {
			t.Errorf("query %v = %v, want %s %d", x.a, r, x.want, x.err)
		}
	}
}

// P30.1: models that differ in one field.
func TestSame(t *testing.T) {
	for i, change := range []func(m *api.Model){
		func(m *api.Model) { m.Seq = 10 }, func(m *api.Model) { m.Docs[0].Id = "aa" }, func(m *api.Model) { m.Docs[0].Rev.Gen = 2 }, func(m *api.Model) { m.Docs[0].Rev.Mark = 2 }, func(m *api.Model) { m.Docs[0].Seq = 2 }, func(m *api.Model) { m.Docs[0].Body = value.Int(2) }, func(m *api.Model) { m.Docs[0].Body, m.Docs[0].Deleted = api.Value{}, true }, func(m *api.Model) { m.Docs[1].Body, m.Docs[1].Deleted = value.Null(), false }, func(m *api.Model) { m.Docs = m.Docs[:2] },
		func(m *api.Model) { m.Views[0].Name = "u" }, func(m *api.Model) { m.Views[1].Source = "emit 1,1;" }, func(m *api.Model) { m.Views = m.Views[:1] },
	} {
		m := base()
		change(&m)
		if model.Check(m) != api.OK || model.Same(m, base()) || model.Same(base(), m) {
			t.Errorf("Same after change %d", i)
		}
	}
	if !model.Same(base(), base()) || !model.Same(api.Model{}, api.Model{Docs: []api.Known{}, Views: []api.Sight{}}) {
		t.Error("Same of equal models")
	}
}

// P30.4: changes are read on while documents change; views and documents do not touch each other.
func TestConsequences(t *testing.T) {
	random, past := sample.New(40), sample.NewPast()
	m, tok, seen := api.Model{}, "", map[string]uint64{}
	for range 400 {
		op := random.Op(past)
		n, r := model.Do(m, op)
		switch op.Kind {
		case api.OpDefine, api.OpDrop:
			if n.Seq != m.Seq || !model.Same(api.Model{Docs: n.Docs, Seq: n.Seq}, api.Model{Docs: m.Docs, Seq: m.Seq}) {
				t.Fatalf("Do(%v) changes documents", op)
			}
		default:
			if !slices.Equal(n.Views, m.Views) {
				t.Fatalf("Do(%v) changes views", op)
			}
		}
		past.Note(op, r)
		m = n
		if random.Below(4) == 0 {
			_, r = model.Do(m, api.Op{Kind: api.OpChanges, Token: tok, Most: 1 + random.Below(3)})
			for _, x := range r.Changes {
				if seen[x.Id] >= x.Seq {
					t.Fatalf("the change %v comes twice", x)
				}
				seen[x.Id] = x.Seq
			}
			tok = r.Token
		}
	}
	for {
		_, r := model.Do(m, api.Op{Kind: api.OpChanges, Token: tok, Most: 2})
		for _, x := range r.Changes {
			seen[x.Id] = x.Seq
		}
		if tok = r.Token; len(r.Changes) == 0 {
			break
		}
	}
	for _, k := range m.Docs {
		if seen[k.Id] != k.Seq {
			t.Errorf("the last change of %s is %d, seen is %d", k.Id, k.Seq, seen[k.Id])
		}
	}
	if last, _ := feed.Token(m.Seq); len(m.Docs) > 0 && tok != last {
		t.Errorf("the last token is %q, want %q", tok, last)
	}
}
