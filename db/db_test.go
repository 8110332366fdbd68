package db_test

import (
	"bytes"
	"encoding/binary"
	"math"
	"strings"
	"testing"

	"davenport/api"
	"davenport/coll"
	"davenport/db"
	"davenport/doc"
	"davenport/feed"
	"davenport/file"
	"davenport/frame"
	"davenport/header"
	"davenport/parse"
	"davenport/print"
	"davenport/query"
	"davenport/sample"
	"davenport/value"
	"davenport/view"
)

var rowsAsk = api.Ask{Level: -1, Most: -1}

func formatted(t *testing.T) api.Db {
	t.Helper()
	d, err := db.Format(file.New())
	if err != api.OK {
		t.Fatalf("Format = %d", err)
	}
	return d
}

// do executes an operation that must succeed.
func do(t *testing.T, d api.Db, op api.Op) (api.Db, api.Reply) {
	t.Helper()
	e, r := db.Do(d, op)
	if r.Err != api.OK {
		t.Fatalf("Do(%v) = %d at %d", op, r.Err, r.Place)
	}
	return e, r
}

func put(id, rev, text string) api.Op {
	return api.Op{Kind: api.OpPut, Id: id, Rev: rev, Text: text}
}

func define(id, text string) api.Op {
	return api.Op{Kind: api.OpDefine, Id: id, Text: text}
}

func ask(id string, a api.Ask) api.Op {
	return api.Op{Kind: api.OpQuery, Id: id, Ask: a}
}

// sameState compares all but the file.
func sameState(a, b api.Db) bool {
	if a.Coll != b.Coll || a.Gen != b.Gen || len(a.Views) != len(b.Views) {
		return false
	}
	for i, v := range a.Views {
		if v != b.Views[i] {
			return false
		}
	}
	return true
}

func blank(d api.Db) bool {
	return sameState(d, api.Db{}) && len(d.File.Firm)+len(d.File.Loose) == 0 && d.File.Fuse == 0 && d.File.Fault == 0 && !d.File.Off
}

// only reports whether a reply has an error, its place, and nothing else.
func only(r api.Reply, err api.Errno, place int) bool {
	return r.Err == err && r.Place == place && r.Rev == "" && r.Body == "" && r.Seq == 0 && r.Token == "" && len(r.Changes)+len(r.Rows)+len(r.Groups) == 0
}

// root is the root record of a database, written anew from the chapter.
func root(d api.Db) []byte {
	tree := func(b []byte, t api.Tree) []byte {
		b = append(binary.BigEndian.AppendUint32(b, uint32(t.At)), byte(t.Depth))
		b = binary.BigEndian.AppendUint32(binary.BigEndian.AppendUint32(b, uint32(t.Red.Count)), uint32(t.Red.Ints))
		for _, x := range []uint64{uint64(t.Red.High), t.Red.Low, uint64(t.Red.Least), uint64(t.Red.Most)} {
			b = binary.BigEndian.AppendUint64(b, x)
		}
		return b
	}
	b := binary.BigEndian.AppendUint64(nil, d.Coll.Seq)
	b = append(tree(tree(b, d.Coll.ById), d.Coll.BySeq), byte(len(d.Views)))
	for _, v := range d.Views {
		b = append(append(b, byte(len(v.Name))), v.Name...)
		b = append(binary.BigEndian.AppendUint16(b, uint16(len(v.Source))), v.Source...)
		b = binary.BigEndian.AppendUint64(tree(tree(b, v.Rows), v.Back), v.Seq)
	}
	return b
}

// stored checks that a database is stored in its file, and that opening it returns it.
func stored(t *testing.T, d api.Db) {
	t.Helper()
	h, _, ok := header.Find(d.File)
	b, _, err := frame.Get(d.File, h.At)
	if !ok || h.Gen != d.Gen || err != api.OK || !bytes.Equal(b, root(d)) || len(d.File.Loose) != 0 {
		t.Fatalf("the database of Gen %d is not stored: %v %v %d", d.Gen, h, ok, err)
	}
	if err := db.Check(d); err != api.OK {
		t.Fatalf("Check = %d", err)
	}
	if e, err := db.Open(d.File); err != api.OK || !sameState(e, d) || !file.Same(e.File, d.File) {
		t.Fatalf("Open = %v %d", e, err)
	}
}

// P29.2: the chapter's examples.
func TestExamples(t *testing.T) {
	d := formatted(t)
	fails := func(op api.Op, err api.Errno, place int) {
		t.Helper()
		e, r := db.Do(d, op)
		if !only(r, err, place) || !sameState(e, d) || !file.Same(e.File, d.File) {
			t.Errorf("Do(%v) = %v, want %d at %d", op, r, err, place)
		}
	}
	var r api.Reply
	d, r = do(t, d, put("a", "", `{"v":1}`))
	one, _ := doc.Next(api.Rev{}, []byte(`{"v":1}`))
	rev, _ := doc.RevText(one)
	if r.Rev != rev || r.Seq != 1 || r.Body != "" || r.Token != "" {
		t.Errorf("OpPut = %v", r)
	}
	fails(put("a", "", `{"v":2}`), api.ErrConflict, 0)
	fails(put("b", "", "[1,]"), api.ErrForm, 3)
	if d, r = do(t, d, define("v", "emit doc.v,id;")); r.Seq != 1 || r.Rev != "" {
		t.Errorf("OpDefine = %v", r)
	}
	fails(define("v", "emit doc.v,id;"), api.ErrThere, 0)
	fails(define("w", "emit x,1;"), api.ErrUnbound, 0)
	fails(define("w", "emit 1;"), api.ErrSyntax, 6)
	if d, r = do(t, d, ask("v", rowsAsk)); len(r.Rows) != 1 || r.Rows[0].Key.N != 1 || r.Rows[0].Id != "a" || r.Rows[0].Value.S != "a" || r.Seq != 1 || len(r.Groups) != 0 {
		t.Errorf("OpQuery = %v", r)
	}
	fails(ask("w", rowsAsk), api.ErrNone, 0)
	tok, _ := feed.Token(1)
	if d, r = do(t, d, api.Op{Kind: api.OpChanges, Most: 9}); len(r.Changes) != 1 || r.Changes[0] != (api.Change{Seq: 1, Id: "a", Rev: one}) || r.Token != tok || r.Seq != 0 {
		t.Errorf("OpChanges = %v", r)
	}
	stored(t, d)
	if d, r = do(t, d, api.Op{Kind: api.OpDrop, Id: "v"}); r.Seq != 1 || len(d.Views) != 0 {
		t.Errorf("OpDrop = %v", r)
	}
	fails(api.Op{Kind: api.OpDrop, Id: "v"}, api.ErrNone, 0)
	for _, kind := range []int{0, 8, 9, -1, math.MaxInt, math.MinInt} {
		fails(api.Op{Kind: kind, Id: "a"}, api.ErrArg, 0)
	}
	if d, r = do(t, d, api.Op{Kind: api.OpGet, Id: "a"}); r.Body != `{"v":1}` || r.Seq != 1 || r.Rev != rev {
		t.Errorf("OpGet = %v", r)
	}
	fails(api.Op{Kind: api.OpGet, Id: "b"}, api.ErrNone, 0)
	stored(t, d)
}

// P29.2: each error, and that it is before those named after it.
func TestErrors(t *testing.T) {
	d := formatted(t)
	d, r := do(t, d, put("a", "", "1"))
	d, g := do(t, d, put("gone", "", "1"))
	d, _ = do(t, d, api.Op{Kind: api.OpDelete, Id: "gone", Rev: g.Rev})
	for _, name := range []string{"b", "d", "c"} {
		d, _ = do(t, d, define(name, "emit doc,id;"))
	}
	long := `"` + strings.Repeat("x", 3000) + `"`
	stale := "1-00000000"
	for _, x := range []struct {
		op    api.Op
		err   api.Errno
		place int
	}{
		{put("A", "x", "["), api.ErrId, 0}, {put("", "", "1"), api.ErrId, 0}, {put("a", "x", "["), api.ErrShort, 1}, {put("a", "x", long), api.ErrLong, 0}, {put("a", "x", `{"a":1,"a":1}`), api.ErrDouble, 7}, {put("a", "x", "[1.5]"), api.ErrNumber, 1}, {put("a", "x", ""), api.ErrShort, 0}, {put("a", "x", "1"), api.ErrRev, 0}, {put("a", "0-00000000", "1"), api.ErrRev, 0}, {put("a", stale, "1"), api.ErrConflict, 0}, {put("a", "", "1"), api.ErrConflict, 0}, {put("x", r.Rev, "1"), api.ErrConflict, 0}, {put("gone", g.Rev, "1"), api.ErrConflict, 0},
		{api.Op{Kind: api.OpDelete, Id: "A", Rev: "x"}, api.ErrId, 0}, {api.Op{Kind: api.OpDelete, Id: "x", Rev: "x"}, api.ErrRev, 0}, {api.Op{Kind: api.OpDelete, Id: "x"}, api.ErrNone, 0}, {api.Op{Kind: api.OpDelete, Id: "gone", Rev: stale}, api.ErrNone, 0}, {api.Op{Kind: api.OpDelete, Id: "a", Rev: stale}, api.ErrConflict, 0}, {api.Op{Kind: api.OpDelete, Id: "a"}, api.ErrConflict, 0},
		{api.Op{Kind: api.OpGet, Id: "A"}, api.ErrId, 0}, {api.Op{Kind: api.OpGet, Id: "x"}, api.ErrNone, 0}, {api.Op{Kind: api.OpGet, Id: "gone"}, api.ErrNone, 0},
		{define("A", "emit"), api.ErrId, 0}, {define("b", "emit"), api.ErrSyntax, 4}, {define("b", "emit x,1;"), api.ErrUnbound, 0}, {define("b", ""), api.ErrThere, 0}, {define("x", "?"), api.ErrLex, 0}, {define("x", "emit 1,1;  ?"), api.ErrLex, 11},
		{api.Op{Kind: api.OpDrop, Id: "A"}, api.ErrId, 0}, {api.Op{Kind: api.OpDrop, Id: "a"}, api.ErrNone, 0},
		{ask("A", api.Ask{Level: 0}), api.ErrId, 0}, {ask("x", api.Ask{Level: 0}), api.ErrNone, 0}, {ask("b", api.Ask{Level: 0}), api.ErrAsk, 0}, {ask("b", api.Ask{Level: -1, HasFrom: true}), api.ErrAsk, 0}, {ask("b", api.Ask{Level: 300, Kind: 1}), api.ErrAsk, 0},
		{api.Op{Kind: api.OpChanges, Token: "x"}, api.ErrArg, 0}, {api.Op{Kind: api.OpChanges, Token: "x", Most: -1}, api.ErrArg, 0}, {api.Op{Kind: api.OpChanges, Token: "x", Most: 1}, api.ErrToken, 0},
	} {
		e, got := db.Do(d, x.op)
		if !only(got, x.err, x.place) || !sameState(e, d) || !file.Same(e.File, d.File) {
			t.Errorf("Do(%.60v) = %v, want %d at %d", x.op, got, x.err, x.place)
		}
	}
	d, _ = do(t, d, define("a", ""))
	if len(d.Views) != 4 || d.Views[0].Name != "a" || d.Views[3].Name != "d" {
		t.Errorf("the views are %v", d.Views)
	}
	for _, x := range []struct {
		op  api.Op
		err api.Errno
	}{{define("e", ""), api.ErrViews}, {define("b", ""), api.ErrThere}, {define("e", "emit x,1;"), api.ErrUnbound}} {
		if e, got := db.Do(d, x.op); !only(got, x.err, 0) || !sameState(e, d) {
			t.Errorf("Do(%v) = %v, want %d", x.op, got, x.err)
		}
	}
	d, _ = do(t, d, api.Op{Kind: api.OpDrop, Id: "c"})
	d, _ = do(t, d, define("e", ""))
	stored(t, d)
}

// P29.2, P29.4: the state after each operation, and what a query commits.
func TestStates(t *testing.T) {
	d := formatted(t)
	if d.Gen != 1 {
		t.Errorf("Format gives Gen %d", d.Gen)
	}
	stored(t, d)
	gen := d.Gen
	step := func(op api.Op, commits bool) api.Reply {
		t.Helper()
		e, r := do(t, d, op)
		if commits {
			gen++
		}
		if e.Gen != gen || !commits && !file.Same(e.File, d.File) {
			t.Fatalf("Do(%v) leads to Gen %d, want %d", op, e.Gen, gen)
		}
		d = e
		stored(t, d)
		return r
	}
	step(define("v", "emit doc,1;"), true)
	step(ask("v", rowsAsk), false)
	r := step(put("a", "", " [ 1, 2 ] "), true)
	step(ask("v", rowsAsk), true)
	step(ask("v", rowsAsk), false)
	step(ask("v", api.Ask{Level: 0, Kind: api.RdCount, Most: -1}), false)
	if got := step(api.Op{Kind: api.OpGet, Id: "a"}, false); got.Body != "[1,2]" || got.Rev != r.Rev {
		t.Errorf("OpGet = %v", got)
	}
	r = step(put("a", r.Rev, "3"), true)
	r = step(api.Op{Kind: api.OpDelete, Id: "a", Rev: r.Rev}, true)
	if r.Seq != 3 || r.Rev[:2] != "3-" {
		t.Errorf("OpDelete = %v", r)
	}
	step(api.Op{Kind: api.OpChanges, Most: 5}, false)
	if got := step(ask("v", rowsAsk), true); len(got.Rows) != 0 || got.Seq != 3 {
		t.Errorf("OpQuery = %v", got)
	}
	if r = step(put("a", "", "4"), true); r.Rev[:2] != "4-" || r.Seq != 4 {
		t.Errorf("OpPut = %v", r)
	}
	step(api.Op{Kind: api.OpDrop, Id: "v"}, true)
}

// P29.2: queries give what package query gives for the rows of all documents; an overflow does not undo the update.
func TestQueries(t *testing.T) {
	d := formatted(t)
	d, _ = do(t, d, define("v", "emit doc.k,doc.n;"))
	for i, text := range []string{`{"k":[1,1],"n":9223372036854775807}`, `{"k":[1,2],"n":1}`, `{"k":[2,1],"n":5}`, `{"k":"x","n":null}`} {
		d, _ = do(t, d, put(sample.Name(i), "", text))
	}
	over := api.Ask{Level: 1, Kind: api.RdSum, Most: -1}
	e, r := db.Do(d, ask("v", over))
	if !only(r, api.ErrOver, 0) || e.Gen != d.Gen+1 || e.Views[0].Seq != 4 {
		t.Errorf("OpQuery = %v, Gen %d", r, e.Gen)
	}
	stored(t, e)
	if f, r := db.Do(e, ask("v", over)); !only(r, api.ErrOver, 0) || !sameState(e, f) || !file.Same(e.File, f.File) {
		t.Errorf("OpQuery once more = %v", r)
	}
	for _, a := range []api.Ask{rowsAsk, {Level: -1, Most: 2, Turned: true}, {Level: -1, Most: -1, HasFrom: true, From: value.Int(1), After: true, HasTo: true, To: api.Value{Kind: api.VText, S: "x"}, Ahead: true}, {Level: 1, Kind: api.RdSum, Most: 1, Turned: true}, {Level: 2, Kind: api.RdStats, Most: -1}, {Level: 0, Kind: api.RdCount, Most: -1}, {Level: 1, Kind: api.RdLeast, Most: 0}} {
		_, r := do(t, d, ask("v", a))
		rows, _ := query.Rows(e.File, e.Views[0].Rows, a)
		groups, _ := query.Groups(e.File, e.Views[0].Rows, a)
		if a.Level == -1 {
			groups = nil
		} else {
			rows = nil
		}
		if len(r.Rows) != len(rows) || len(r.Groups) != len(groups) || r.Seq != 4 {
			t.Fatalf("OpQuery(%v) = %v", a, r)
		}
		for i, x := range rows {
			if y := r.Rows[i]; !value.Same(x.Key, y.Key) || x.Id != y.Id || x.Which != y.Which || !value.Same(x.Value, y.Value) {
				t.Errorf("row %d of %v = %v, want %v", i, a, y, x)
			}
		}
		for i, x := range groups {
			if y := r.Groups[i]; !value.Same(x.Key, y.Key) || !value.Same(x.Value, y.Value) {
				t.Errorf("group %d of %v = %v, want %v", i, a, y, x)
			}
		}
	}
}

// P29.1
func TestFormat(t *testing.T) {
	full := api.File{Firm: make([]byte, api.MaxFile-50), Fuse: -1, Fault: -1}
	if d, err := db.Format(full); err != api.ErrFull || !sameState(d, api.Db{}) || file.Len(d.File) != file.Len(full) {
		t.Errorf("Format of a full file = %v %d", d.Gen, err)
	}
	wrong := api.File{Fuse: -2, Fault: -1}
	if d, err := db.Format(wrong); err != api.ErrFile || !blank(d) {
		t.Errorf("Format of a wrong file = %v %d", d, err)
	}
	// The root, a sync, the header, a sync.
	for i := range 4 {
		f, _ := file.Refuse(file.New(), i)
		d, err := db.Format(f)
		if err != api.ErrIo || !sameState(d, api.Db{}) || d.File.Fault != -1 || d.File.Off || (file.Len(d.File) > 0) != (i > 0) || (len(d.File.Firm) > 0) != (i > 1) {
			t.Errorf("Format whose operation %d is refused = %v %d", i, d, err)
		}
		if e, err := db.Format(d.File); err != api.OK || e.Gen != 1 {
			t.Errorf("Format tried once more = %v %d", e.Gen, err)
		}
		f, _ = file.Light(file.New(), i)
		if d, err := db.Format(f); err != api.ErrOff || !sameState(d, api.Db{}) || !d.File.Off {
			t.Errorf("Format without power after %d operations = %v %d", i, d, err)
		}
	}
	used := formatted(t)
	used, _ = do(t, used, put("a", "", "1"))
	again, err := db.Format(used.File)
	if err != api.OK || again.Gen != 1 || again.Coll != (api.Coll{}) || !bytes.HasPrefix(again.File.Firm, used.File.Firm) {
		t.Errorf("Format of a file with a database = %v %d", again.Gen, err)
	}
	stored(t, again)
}

// withRoot returns a file with a record and a header that refers to it.
func withRoot(f api.File, b []byte, gen uint64) api.File {
	f, at, _ := frame.Put(f, b)
	f, _ = header.Put(f, api.Header{Gen: gen, At: at})
	return f
}

// P29.1
func TestOpen(t *testing.T) {
	d := formatted(t)
	d, _ = do(t, d, put("a", "", "1"))
	d, _ = do(t, d, define("v", "emit doc,id;"))
	d, _ = do(t, d, ask("v", rowsAsk))
	right := root(d)
	e, err := db.Open(withRoot(d.File, right, math.MaxUint64))
	if err != api.OK || e.Gen != math.MaxUint64 || e.Coll != d.Coll || len(e.Views) != 1 || e.Views[0] != d.Views[0] {
		t.Errorf("Open = %v %d", e, err)
	}
	dark := d.File
	dark.Off = true
	if e, err := db.Open(dark); err != api.OK || !sameState(e, d) || !e.File.Off {
		t.Errorf("Open without power = %d", err)
	}
	two, view := d, d.Views[0]
	two.Views = []api.View{view, view}
	named := view
	named.Name = "a"
	turned := d
	turned.Views = []api.View{view, named}
	five := d
	for _, name := range []string{"a", "b", "c", "d", "e"} {
		v := view
		v.Name = name
		five.Views = append(five.Views[:len(five.Views):len(five.Views)], v)
	}
	five.Views = five.Views[1:]
	seq, rows := d, d
	seq.Coll.Seq = 0
	v := view
	v.Rows = api.Tree{}
	rows.Views = []api.View{v}
	files := []api.File{file.New(), {Firm: make([]byte, 500), Fuse: -1, Fault: -1}, withRoot(d.File, right[:len(right)-1], 9), withRoot(d.File, append(bytes.Clone(right), 0), 9), withRoot(d.File, []byte("x"), 9), withRoot(d.File, root(two), 9), withRoot(d.File, root(turned), 9), withRoot(d.File, root(five), 9), withRoot(d.File, root(seq), 9), withRoot(d.File, root(rows), 9), withRoot(file.New(), right, 9)}
	noRoot, _ := header.Put(d.File, api.Header{Gen: 9, At: 0})
	other, _ := header.Put(d.File, api.Header{Gen: 9, At: d.Coll.ById.At})
	for i, f := range append(files, noRoot, other) {
		if e, err := db.Open(f); err != api.ErrDb || !blank(e) {
			t.Errorf("Open of wrong file %d = %v %d", i, e, err)
		}
	}
	for n := range len(right) {
		if e, err := db.Open(withRoot(d.File, right[:n+1], 9)); (err == api.OK) != (n+1 == len(right)) {
			t.Errorf("Open with %d of %d bytes = %v %d", n+1, len(right), e.Gen, err)
		}
	}
	if e, err := db.Open(api.File{Fuse: -2, Fault: -1}); err != api.ErrFile || !blank(e) {
		t.Errorf("Open of an invalid file = %v %d", e, err)
	}
	// The record alone, without a later header, is not the database's.
	f, _, _ := frame.Put(d.File, root(seq))
	if e, err := db.Open(f); err != api.OK || !sameState(e, d) {
		t.Errorf("Open with another record = %v %d", e, err)
	}
}

// P29.1: each thing that a valid database must have is taken from it.
func TestCheck(t *testing.T) {
	d := formatted(t)
	d, _ = do(t, d, put("a", "", "1"))
	for _, name := range []string{"b", "c"} {
		d, _ = do(t, d, define(name, "emit doc,id;"))
	}
	with := func(change func(e *api.Db)) api.Db {
		e := d
		e.Views = append([]api.View{}, d.Views...)
		change(&e)
		return e
	}
	for i, e := range []api.Db{
		with(func(e *api.Db) { e.Gen = 0 }), with(func(e *api.Db) { e.Coll.Seq = 0 }), with(func(e *api.Db) { e.Coll.ById.At++ }), with(func(e *api.Db) { e.Views[0].Name = "c" }), with(func(e *api.Db) { e.Views[0].Name = "d" }), with(func(e *api.Db) { e.Views[0].Name = "B" }), with(func(e *api.Db) { e.Views[1].Seq = 2 }), with(func(e *api.Db) { e.Views[1].Source = "emit" }), with(func(e *api.Db) { e.File = file.New() }),
		with(func(e *api.Db) {
			for _, name := range []string{"d", "e", "f"} {
				v := e.Views[0]
				v.Name = name
				e.Views = append(e.Views, v)
			}
		}),
	} {
		if err := db.Check(e); err != api.ErrDb {
			t.Errorf("Check of wrong database %d = %d", i, err)
		}
		if _, r := db.Do(e, put("x", "", "1")); r.Err == api.OK && i == 1 {
			t.Errorf("Do with wrong database %d = %v", i, r)
		}
		e.File.Fuse = -2
		if err := db.Check(e); err != api.ErrFile {
			t.Errorf("Check of wrong database %d in a wrong file = %d", i, err)
		}
		db.Do(e, put("x", "", "1"))
	}
	if err := db.Check(with(func(e *api.Db) { e.Gen = 77 })); err != api.OK {
		t.Errorf("Check with another Gen = %d", err)
	}
	db.Do(api.Db{}, put("a", "", "1"))
}

// P29.2: no state follows that of the last Gen.
func TestLastGen(t *testing.T) {
	d := formatted(t)
	d, _ = do(t, d, put("a", "", "1"))
	d, _ = do(t, d, define("v", "emit doc,id;"))
	d.Gen = math.MaxUint64
	for _, op := range []api.Op{put("b", "", "1"), define("w", ""), {Kind: api.OpDrop, Id: "v"}, ask("v", rowsAsk)} {
		e, r := db.Do(d, op)
		if !only(r, api.ErrFull, 0) || !sameState(e, d) {
			t.Errorf("Do(%v) after the last Gen = %v", op, r)
		}
	}
	do(t, d, api.Op{Kind: api.OpGet, Id: "a"})
	d.Gen--
	e, _ := do(t, d, put("b", "", "1"))
	if e.Gen != math.MaxUint64 {
		t.Errorf("the Gen is %d", e.Gen)
	}
	stored(t, e)
}

// prepared returns a database in which an operation of each kind changes something.
func prepared(t *testing.T) (api.Db, []api.Op) {
	d := formatted(t)
	for i := range 9 {
		d, _ = do(t, d, put(sample.Name(i), "", `{"n":`+string(rune('0'+i))+"}"))
	}
	d, r := do(t, d, put("x", "", "1"))
	d, _ = do(t, d, define("v", "emit doc.n,id;"))
	return d, []api.Op{put("y", "", "[2]"), put("x", r.Rev, "3"), {Kind: api.OpDelete, Id: "x", Rev: r.Rev}, define("w", "emit doc,1;"), {Kind: api.OpDrop, Id: "v"}, ask("v", rowsAsk), ask("v", api.Ask{Level: 0, Kind: api.RdSum, Most: -1})}
}

// P29.2, P29.4: each operation of the file fails in turn, and the power is lost afterwards.
func TestFailingOperations(t *testing.T) {
	d, ops := prepared(t)
	for _, op := range ops {
		done, want := do(t, d, op)
		count := 0
		for i := 0; ; i++ {
			f, _ := file.Refuse(d.File, i)
			e := d
			e.File = f
			e, r := db.Do(e, op)
			if r.Err == api.OK {
				count = i
				break
			}
			if !only(r, api.ErrIo, 0) || !sameState(e, d) || db.Check(e) != api.OK || e.File.Fault != -1 {
				t.Fatalf("Do(%v) whose operation %d is refused = %v", op, i, r)
			}
			again, r := db.Do(e, op)
			if r.Err != api.OK || r.Seq != want.Seq || r.Rev != want.Rev || len(r.Rows) != len(want.Rows) || again.Gen != done.Gen {
				t.Fatalf("Do(%v) tried once more = %v, want %v", op, r, want)
			}
			stored(t, again)
			// Whatever survives a power loss, the database is as before, or as after the operation.
			for _, all := range []bool{false, true} {
				keep := make([]bool, len(e.File.Loose))
				for j := range keep {
					keep[j] = all
				}
				g, _ := file.Crash(e.File, keep, -1, 0)
				o, err := db.Open(g)
				if err != api.OK || o.Gen != d.Gen && o.Gen != done.Gen || o.Gen == d.Gen && o.Coll != d.Coll {
					t.Fatalf("Open after operation %d of %v was refused = %v %d", i, op, o.Gen, err)
				}
			}
			f, _ = file.Light(d.File, i)
			e = d
			e.File = f
			if e, r = db.Do(e, op); !only(r, api.ErrOff, 0) || !sameState(e, d) || !e.File.Off {
				t.Fatalf("Do(%v) without power after %d operations = %v", op, i, r)
			}
			if _, r = db.Do(e, api.Op{Kind: api.OpGet, Id: "d1"}); r.Err != api.OK {
				t.Fatalf("OpGet without power = %v", r)
			}
		}
		if count < 4 {
			t.Errorf("Do(%v) takes %d operations of the file", op, count)
		}
	}
}

// P29.2: the file is full.
func TestFullFile(t *testing.T) {
	d, ops := prepared(t)
	for _, room := range []int{10, 200, 500, 900} {
		e := d
		e.File, _ = file.Append(d.File, make([]byte, api.MaxFile-file.Len(d.File)-room))
		for _, op := range ops {
			g, r := db.Do(e, op)
			if r.Err == api.OK {
				continue
			}
			if !only(r, api.ErrFull, 0) || !sameState(g, e) || db.Check(g) != api.OK {
				t.Errorf("Do(%v) with room for %d bytes = %v", op, room, r)
			}
		}
		do(t, e, api.Op{Kind: api.OpGet, Id: "d1"})
	}
}

// P29.3: the most that one operation can need fits into MaxNeed bytes.
func TestSpace(t *testing.T) {
	near := func(d api.Db) api.Db {
		d.File, _ = file.Append(d.File, make([]byte, api.MaxFile-api.MaxNeed-file.Len(d.File)))
		return d
	}
	blankFile, _ := file.Append(file.New(), make([]byte, api.MaxFile-api.MaxNeed))
	if _, err := db.Format(blankFile); err != api.OK {
		t.Errorf("Format = %d", err)
	}
	d := formatted(t)
	src := "emit[doc.k,1],doc.v;emit[doc.k,2],doc.v;emit[doc.k,3],doc.v;emit[doc.k,4],doc.v;"
	name := func(s string) string { return strings.Repeat(s, api.MaxId) }
	d, _ = do(t, d, define(name("a"), src))
	id := func(i int) string {
		return strings.Repeat("x", api.MaxId-2) + string(rune('a'+i/10)) + string(rune('0'+i%10))
	}
	body := func(i, j, size int) string {
		key := strings.Repeat("k", 60+(i+j)%10)
		return `{"k":"` + key + string(rune('a'+(7*i+j)%26)) + `","v":"` + strings.Repeat("v", 98) + `","z":"` + strings.Repeat("z", size) + `"}`
	}
	revs := map[string]string{}
	for round := range 2 {
		for i := range api.MaxDocs {
			var r api.Reply
			d, r = do(t, d, put(id(i), revs[id(i)], body(i, round, 1)))
			revs[id(i)] = r.Rev
		}
		if _, r := do(t, near(d), ask(name("a"), rowsAsk)); len(r.Rows) != api.MaxDocs*api.MaxEmits {
			t.Errorf("there are %d rows", len(r.Rows))
		}
		d, _ = do(t, d, ask(name("a"), rowsAsk))
	}
	for _, s := range []string{"b", "c", "d"} {
		d, _ = do(t, d, define(name(s), src+strings.Repeat(" ", api.MaxSource-len(src))))
	}
	do(t, near(d), put(id(5), revs[id(5)], body(5, 2, 1750)))
	do(t, near(d), api.Op{Kind: api.OpDelete, Id: id(5), Rev: revs[id(5)]})
	do(t, near(d), ask(name("d"), rowsAsk))
	do(t, near(d), api.Op{Kind: api.OpDrop, Id: name("a")})
}

// P29.4: documents and views are what a chain of single calls makes of them.
func TestChain(t *testing.T) {
	random := sample.New(29)
	d := formatted(t)
	d, _ = do(t, d, define("v", "for x in doc{emit x,id;}emit doc,1;"))
	revs := map[string]string{}
	for step := range 40 {
		before := d
		before.Views = append([]api.View{}, d.Views...)
		old := d
		id := sample.Name(random.Below(6))
		text, _ := print.Print(random.Value(3))
		if revs[id] != "" && random.Below(3) == 0 {
			d, _ = do(t, d, api.Op{Kind: api.OpDelete, Id: id, Rev: revs[id]})
			delete(revs, id)
		} else {
			var r api.Reply
			d, r = do(t, d, put(id, revs[id], text))
			if revs[id] = r.Rev; r.Seq != uint64(step+1) {
				t.Fatalf("Seq = %d", r.Seq)
			}
			body, _, _ := parse.Parse([]byte(text))
			if _, v, err := coll.Get(d.File, d.Coll, id); err != api.OK || !value.Same(v, body) {
				t.Fatalf("Get = %v %d", v, err)
			}
		}
		if random.Below(3) == 0 {
			d, _ = do(t, d, ask("v", rowsAsk))
			if all, err := view.All(d.File, d.Coll, d.Views[0]); err != api.OK || d.Views[0].Seq != d.Coll.Seq {
				t.Fatalf("All = %v %d", all, err)
			}
		}
		if stored(t, d); !sameState(old, before) {
			t.Fatal("an operation has changed its argument")
		}
	}
}
