package coll_test

import (
	"encoding/binary"
	"math"
	"slices"
	"strings"
	"testing"

	"davenport/api"
	"davenport/batch"
	"davenport/coll"
	"davenport/doc"
	"davenport/file"
	"davenport/frame"
	"davenport/merge"
	"davenport/print"
	"davenport/sample"
	"davenport/tree"
	"davenport/value"
)

var none api.Rev

// store is a file with a collection.
type store struct {
	t *testing.T
	f api.File
	c api.Coll
}

func empty(t *testing.T) *store {
	return &store{t: t, f: file.New()}
}

func (s *store) put(id string, rev api.Rev, body api.Value) api.Rev {
	s.t.Helper()
	f, c, r, err := coll.Put(s.f, s.c, id, rev, body)
	if err != api.OK {
		s.t.Fatalf("Put(%s) = %d", id, err)
	}
	s.f, s.c = f, c
	return r
}

func (s *store) drop(id string, rev api.Rev) api.Rev {
	s.t.Helper()
	f, c, r, err := coll.Delete(s.f, s.c, id, rev)
	if err != api.OK {
		s.t.Fatalf("Delete(%s) = %d", id, err)
	}
	s.f, s.c = f, c
	return r
}

// refuse checks that a call failed with an error and has left everything as it was.
func (s *store) refuse(what string, want api.Errno) func(f api.File, c api.Coll, r api.Rev, err api.Errno) {
	return func(f api.File, c api.Coll, r api.Rev, err api.Errno) {
		s.t.Helper()
		same := len(f.Firm) == len(s.f.Firm) && len(f.Loose) == len(s.f.Loose) && f.Fault == s.f.Fault && f.Fuse == s.f.Fuse && f.Off == s.f.Off
		if err != want || r != none || c != s.c || !same {
			s.t.Errorf("%s = %v %d, want %d", what, r, err, want)
		}
	}
}

func (s *store) ids() string {
	s.t.Helper()
	l, err := coll.Ids(s.f, s.c)
	if err != api.OK {
		s.t.Fatalf("Ids = %d", err)
	}
	return strings.Join(l, " ")
}

// P20: the chapter's examples.
func TestExamples(t *testing.T) {
	s := empty(t)
	a := s.put("a", none, value.Int(7))
	s.refuse("Put", api.ErrConflict)(coll.Put(s.f, s.c, "a", none, value.Int(8)))
	if i, v, err := coll.Get(s.f, s.c, "a"); i.Rev != a || a.Gen != 1 || i.Seq != 1 || v.N != 7 || err != api.OK || s.ids() != "a" {
		t.Errorf("Get = %v %v %d", i, v, err)
	}
	a = s.put("a", a, value.Int(8))
	s.put("b", none, value.Null())
	s.drop("a", a)
	if _, _, err := coll.Get(s.f, s.c, "a"); err != api.ErrNone || s.ids() != "b" || s.c.Seq != 4 {
		t.Errorf("Get of a deleted document = %d", err)
	}
	if a := s.put("a", none, value.Int(9)); a.Gen != 4 {
		t.Errorf("Put of a deleted document = %v", a)
	}
	s.refuse("Delete", api.ErrNone)(coll.Delete(s.f, s.c, "c", none))
	s.refuse("Put", api.ErrId)(coll.Put(s.f, s.c, "A", none, value.Int(1)))
}

// P20.2, P20.3, P20.6: any sequence of changes, against a map.
func TestChanges(t *testing.T) {
	type known struct {
		rev  api.Rev
		seq  uint64
		gone bool
		body api.Value
	}
	random := sample.New(20)
	for range 4 {
		s := empty(t)
		docs := map[string]known{}
		for step := range 60 {
			id := sample.Name(random.Below(12))
			old := docs[id]
			there := old.seq > 0 && !old.gone
			rev := old.rev
			if old.gone {
				rev = none
			}
			body := random.Value(3)
			text, _ := print.Print(body)
			if there && random.Below(3) == 0 {
				want, _ := doc.Next(old.rev, nil)
				if got := s.drop(id, rev); got != want {
					t.Fatalf("Delete = %v, want %v", got, want)
				}
				docs[id] = known{want, uint64(step + 1), true, api.Value{}}
			} else {
				want, _ := doc.Next(old.rev, []byte(text))
				if got := s.put(id, rev, body); got != want {
					t.Fatalf("Put = %v, want %v", got, want)
				}
				docs[id] = known{want, uint64(step + 1), false, body}
			}
			if s.c.Seq != uint64(step+1) || coll.Check(s.f, s.c) != api.OK {
				t.Fatalf("after %d changes Seq is %d", step+1, s.c.Seq)
			}
			var ids []string
			for id, k := range docs {
				i, v, err := coll.Get(s.f, s.c, id)
				if k.gone {
					if err != api.ErrNone || i != (api.Info{}) || v.Kind != 0 {
						t.Fatalf("Get of %s, which is deleted = %v %d", id, i, err)
					}
					continue
				}
				ids = append(ids, id)
				if err != api.OK || i.Rev != k.rev || i.Seq != k.seq || i.Deleted || i.At < 1 || !value.Same(v, k.body) {
					t.Fatalf("Get(%s) = %v %v %d, want %v", id, i, v, err, k)
				}
			}
			slices.Sort(ids)
			if s.ids() != strings.Join(ids, " ") {
				t.Fatalf("Ids = %s, want %v", s.ids(), ids)
			}
		}
	}
}

// P20.6: earlier collections stay readable, whatever is done to later ones.
func TestEarlierCollections(t *testing.T) {
	s := empty(t)
	a := s.put("a", none, value.Int(1))
	before := s.c
	s.drop("a", a)
	s.put("b", none, value.Int(2))
	if i, v, err := coll.Get(s.f, before, "a"); err != api.OK || v.N != 1 || i.Rev != a || coll.Check(s.f, before) != api.OK {
		t.Errorf("Get from the earlier collection = %v %v %d", i, v, err)
	}
	// Two ways from one state do not touch each other.
	f, c, _, _ := coll.Put(s.f, s.c, "c", none, value.Int(3))
	g, d, _, _ := coll.Put(s.f, s.c, "d", none, value.Int(4))
	if l, _ := coll.Ids(f, c); strings.Join(l, " ") != "b c" {
		t.Errorf("Ids = %v", l)
	}
	if l, _ := coll.Ids(g, d); strings.Join(l, " ") != "b d" {
		t.Errorf("Ids = %v", l)
	}
}

// P20.2, P20.3, P20.5: each error, and that it is before those named after it.
func TestErrors(t *testing.T) {
	s := empty(t)
	a := s.put("a", none, value.Int(1))
	gone := s.put("gone", none, value.Int(1))
	gone = s.drop("gone", gone)
	long := api.Value{Kind: api.VText, S: strings.Repeat("x", api.MaxJson)}
	fits := api.Value{Kind: api.VText, S: strings.Repeat("x", api.MaxJson-2)}
	other := api.Rev{Gen: 1, Mark: a.Mark + 1}
	for _, x := range []struct {
		id   string
		rev  api.Rev
		body api.Value
		err  api.Errno
	}{
		{"", other, api.Value{}, api.ErrId}, {"A", none, value.Int(1), api.ErrId}, {strings.Repeat("a", 25), none, value.Int(1), api.ErrId},
		{"a", other, api.Value{}, api.ErrValue}, {"b", none, sample.Nest(9), api.ErrValue}, {"a", other, long, api.ErrLong},
		{"a", none, value.Int(1), api.ErrConflict}, {"a", other, value.Int(1), api.ErrConflict}, {"a", api.Rev{Gen: 2, Mark: a.Mark}, value.Int(1), api.ErrConflict}, {"b", a, value.Int(1), api.ErrConflict}, {"b", api.Rev{Mark: 1}, value.Int(1), api.ErrConflict}, {"gone", gone, value.Int(1), api.ErrConflict}, {"gone", a, fits, api.ErrConflict},
	} {
		s.refuse("Put of "+x.id, x.err)(coll.Put(s.f, s.c, x.id, x.rev, x.body))
	}
	for _, x := range []struct {
		id  string
		rev api.Rev
		err api.Errno
	}{
		{"", a, api.ErrId}, {"a_", none, api.ErrId}, {"b", none, api.ErrNone}, {"b", a, api.ErrNone}, {"gone", gone, api.ErrNone}, {"gone", none, api.ErrNone}, {"a", none, api.ErrConflict}, {"a", other, api.ErrConflict},
	} {
		s.refuse("Delete of "+x.id, x.err)(coll.Delete(s.f, s.c, x.id, x.rev))
	}
	for id, want := range map[string]api.Errno{"": api.ErrId, "B": api.ErrId, "b": api.ErrNone, "gone": api.ErrNone} {
		if i, v, err := coll.Get(s.f, s.c, id); err != want || i != (api.Info{}) || v.Kind != 0 {
			t.Errorf("Get(%s) = %v %d", id, i, err)
		}
	}
	s.put("b", none, fits)
}

// P20.2: MaxDocs counts deleted documents; a known one can be put all the same.
func TestMaxDocs(t *testing.T) {
	s := empty(t)
	revs := map[string]api.Rev{}
	for i := range api.MaxDocs {
		id := sample.Name(i)
		revs[id] = s.put(id, none, value.Int(int64(i)))
	}
	s.drop("d3", revs["d3"])
	s.refuse("Put", api.ErrDocs)(coll.Put(s.f, s.c, "x", none, value.Int(1)))
	s.refuse("Put", api.ErrConflict)(coll.Put(s.f, s.c, "x", revs["d3"], value.Int(1)))
	s.refuse("Delete", api.ErrNone)(coll.Delete(s.f, s.c, "x", none))
	s.put("d3", none, value.Int(9))
	s.put("d4", revs["d4"], value.Int(9))
}

// planted returns a store with documents of some Infos; Infos that exist get a body.
func planted(t *testing.T, seq uint64, docs map[string]api.Info) *store {
	t.Helper()
	s := empty(t)
	var byId, bySeq []api.Edit
	for id, i := range docs {
		if !i.Deleted {
			s.f, i.At, _ = frame.Put(s.f, []byte("1"))
		}
		code, err := doc.Encode(i)
		if err != api.OK {
			t.Fatal(err)
		}
		byId = append(byId, api.Edit{Key: []byte(id), Put: true, Value: code})
		bySeq = append(bySeq, api.Edit{Key: binary.BigEndian.AppendUint64(nil, i.Seq), Put: true, Value: []byte(id)})
	}
	s.c = api.Coll{ById: s.plant(byId), BySeq: s.plant(bySeq), Seq: seq}
	return s
}

func (s *store) plant(l []api.Edit) api.Tree {
	s.t.Helper()
	l, _ = merge.Sort(l)
	f, x, err := batch.Apply(s.f, api.Tree{}, l)
	if err != api.OK {
		s.t.Fatal(err)
	}
	s.f = f
	return x
}

// P20.2, P20.3: revisions and Seqs at their ends.
func TestEnds(t *testing.T) {
	last := api.Rev{Gen: math.MaxUint32, Mark: 5}
	one := api.Rev{Gen: 1}
	s := planted(t, 9, map[string]api.Info{"a": {Rev: last, Seq: 1}, "b": {Rev: last, Seq: 2, Deleted: true}, "c": {Rev: one, Seq: 3}})
	if err := coll.Check(s.f, s.c); err != api.OK {
		t.Fatalf("Check = %d", err)
	}
	s.refuse("Put", api.ErrConflict)(coll.Put(s.f, s.c, "a", none, value.Int(1)))
	s.refuse("Put", api.ErrOver)(coll.Put(s.f, s.c, "a", last, value.Int(1)))
	s.refuse("Put", api.ErrOver)(coll.Put(s.f, s.c, "b", none, value.Int(1)))
	s.refuse("Delete", api.ErrOver)(coll.Delete(s.f, s.c, "a", last))
	s.c.Seq = api.MaxSeq
	s.refuse("Put", api.ErrOver)(coll.Put(s.f, s.c, "a", last, value.Int(1)))
	s.refuse("Put", api.ErrFull)(coll.Put(s.f, s.c, "c", one, value.Int(1)))
	s.refuse("Put", api.ErrFull)(coll.Put(s.f, s.c, "x", none, value.Int(1)))
	s.refuse("Delete", api.ErrOver)(coll.Delete(s.f, s.c, "a", last))
	s.refuse("Delete", api.ErrFull)(coll.Delete(s.f, s.c, "c", one))
	s.c.Seq = api.MaxSeq - 1
	if r := s.put("c", one, value.Int(1)); s.c.Seq != api.MaxSeq || r.Gen != 2 {
		t.Errorf("Put with the last Seq = %v, %d", r, s.c.Seq)
	}
}

// P20.1: each thing that a valid collection must have is taken from it.
func TestCheck(t *testing.T) {
	if err := coll.Check(file.New(), api.Coll{}); err != api.OK {
		t.Errorf("Check of the empty collection = %d", err)
	}
	if err := coll.Check(file.New(), api.Coll{Seq: api.MaxSeq}); err != api.OK {
		t.Errorf("Check of an empty collection with the last Seq = %d", err)
	}
	one := api.Rev{Gen: 1}
	right := func() *store {
		return planted(t, 5, map[string]api.Info{"a": {Rev: one, Seq: 1}, "b": {Rev: one, Seq: 4, Deleted: true}, "c": {Rev: one, Seq: 5}})
	}
	if s := right(); coll.Check(s.f, s.c) != api.OK || s.ids() != "a c" {
		t.Fatal("the collection is not valid")
	}
	code := func(i api.Info) []byte { b, _ := doc.Encode(i); return b }
	key := func(n uint64) []byte { return binary.BigEndian.AppendUint64(nil, n) }
	wrong := map[string]func(s *store){
		"Seq too small":         func(s *store) { s.c.Seq = 4 },
		"Seq too great":         func(s *store) { s.c.Seq = api.MaxSeq + 1 },
		"no tree by id":         func(s *store) { s.c.ById.At++ },
		"no tree by Seq":        func(s *store) { s.c.BySeq.At++ },
		"empty tree by id":      func(s *store) { s.c.ById = api.Tree{} },
		"empty tree by Seq":     func(s *store) { s.c.BySeq = api.Tree{} },
		"trees exchanged":       func(s *store) { s.c.ById, s.c.BySeq = s.c.BySeq, s.c.ById },
		"an id with a number":   func(s *store) { s.edit(&s.c.ById, "a", func(e *api.Edit) { e.Int = true }) },
		"a Seq with a number":   func(s *store) { s.edit(&s.c.BySeq, string(key(1)), func(e *api.Edit) { e.Int = true }) },
		"no Info":               func(s *store) { s.edit(&s.c.ById, "a", func(e *api.Edit) { e.Value = e.Value[1:] }) },
		"an Info without a Gen": func(s *store) { s.edit(&s.c.ById, "a", func(e *api.Edit) { e.Value[3] = 0 }) },
		"a body elsewhere":      func(s *store) { s.edit(&s.c.ById, "a", func(e *api.Edit) { e.Value[20]++ }) },
		"another Seq by id":     func(s *store) { s.edit(&s.c.ById, "a", func(e *api.Edit) { e.Value[15] = 2 }) },
		"the same Seq twice":    func(s *store) { s.edit(&s.c.ById, "a", func(e *api.Edit) { e.Value[15] = 5 }) },
		"another id by Seq":     func(s *store) { s.edit(&s.c.BySeq, string(key(1)), func(e *api.Edit) { e.Value = []byte("c") }) },
		"another document by id": func(s *store) {
			s.edit(&s.c.ById, "d", func(e *api.Edit) { e.Value = code(api.Info{Rev: one, Seq: 2, Deleted: true}) })
		},
		"another item by Seq":    func(s *store) { s.edit(&s.c.BySeq, string(key(2)), func(e *api.Edit) { e.Value = []byte("d") }) },
		"an item less by Seq":    func(s *store) { s.edit(&s.c.BySeq, string(key(4)), func(e *api.Edit) { e.Put, e.Value = false, nil }) },
		"a longer key by Seq":    func(s *store) { s.move(string(key(4)), string(key(4))+"\x00") },
		"a Seq for another":      func(s *store) { s.move(string(key(4)), string(key(3))) },
		"a wrong id":             func(s *store) { s.rename("a", "A") },
		"a body that is no text": func(s *store) { s.body("a", "[1,]") },
		"a body with a space":    func(s *store) { s.body("a", "[1, 2]") },
		"a body not canonical":   func(s *store) { s.body("a", `{"b":1,"a":2}`) },
		"a body too long":        func(s *store) { s.body("a", `"`+strings.Repeat("x", api.MaxJson)+`"`) },
	}
	for name, change := range wrong {
		s := right()
		change(s)
		s.refuseAll(name, api.ErrColl)
		s.f.Fuse = -2
		s.refuseAll(name+" in a wrong file", api.ErrFile)
	}
	s := right()
	s.body("a", `{"a":1,"b":[2,"x"]}`)
	if err := coll.Check(s.f, s.c); err != api.OK {
		t.Errorf("Check with another body = %d", err)
	}
	many := map[string]api.Info{}
	for i := range api.MaxDocs + 1 {
		many[sample.Name(i)] = api.Info{Rev: one, Seq: uint64(i + 1), Deleted: true}
	}
	planted(t, 99, many).refuseAll("too many documents", api.ErrColl)
	delete(many, sample.Name(5))
	if s := planted(t, 99, many); coll.Check(s.f, s.c) != api.OK {
		t.Error("Check of MaxDocs documents")
	}
}

// refuseAll checks that all functions refuse a collection, whatever else is wrong.
func (s *store) refuseAll(name string, want api.Errno) {
	s.t.Helper()
	if err := coll.Check(s.f, s.c); err != want {
		s.t.Errorf("%s: Check = %d", name, err)
	}
	s.refuse(name+": Put", want)(coll.Put(s.f, s.c, "A", none, api.Value{}))
	s.refuse(name+": Delete", want)(coll.Delete(s.f, s.c, "A", none))
	if i, v, err := coll.Get(s.f, s.c, "A"); err != want || i != (api.Info{}) || v.Kind != 0 {
		s.t.Errorf("%s: Get = %v %d", name, i, err)
	}
	if l, err := coll.Ids(s.f, s.c); err != want || len(l) != 0 {
		s.t.Errorf("%s: Ids = %v %d", name, l, err)
	}
}

// edit changes, adds or removes an item of a tree.
func (s *store) edit(x *api.Tree, key string, change func(*api.Edit)) {
	old, _ := tree.Get(s.f, *x, []byte(key))
	e := api.Edit{Key: []byte(key), Put: true, Value: slices.Clone(old.Value)}
	change(&e)
	var err api.Errno
	if s.f, *x, err = batch.Apply(s.f, *x, []api.Edit{e}); err != api.OK {
		s.t.Fatal(err)
	}
}

func (s *store) move(from, to string) {
	old, _ := tree.Get(s.f, s.c.BySeq, []byte(from))
	s.edit(&s.c.BySeq, from, func(e *api.Edit) { e.Put, e.Value = false, nil })
	s.edit(&s.c.BySeq, to, func(e *api.Edit) { e.Value = old.Value })
}

func (s *store) rename(from, to string) {
	old, _ := tree.Get(s.f, s.c.ById, []byte(from))
	info, _ := doc.Decode(old.Value)
	s.edit(&s.c.ById, from, func(e *api.Edit) { e.Put, e.Value = false, nil })
	s.edit(&s.c.ById, to, func(e *api.Edit) { e.Value = old.Value })
	s.edit(&s.c.BySeq, string(binary.BigEndian.AppendUint64(nil, info.Seq)), func(e *api.Edit) { e.Value = []byte(to) })
}

// body gives a document a body, without a change of anything else.
func (s *store) body(id, text string) {
	f, at, err := frame.Put(s.f, []byte(text))
	if err != api.OK {
		s.t.Fatal(err)
	}
	s.f = f
	s.edit(&s.c.ById, id, func(e *api.Edit) {
		info, _ := doc.Decode(e.Value)
		info.At = at
		e.Value, _ = doc.Encode(info)
	})
}

// P20.4: each operation of the file fails in turn.
func TestFailingOperations(t *testing.T) {
	s := empty(t)
	a := s.put("a", none, value.Int(1))
	s.put("b", none, value.Int(2))
	pieces := len(s.f.Loose)
	calls := map[string]func(f api.File) (api.File, api.Coll, api.Rev, api.Errno){
		"Put": func(f api.File) (api.File, api.Coll, api.Rev, api.Errno) {
			return coll.Put(f, s.c, "a", a, value.Int(9))
		},
		"Delete": func(f api.File) (api.File, api.Coll, api.Rev, api.Errno) { return coll.Delete(f, s.c, "a", a) },
	}
	for name, call := range calls {
		whole, _, _, err := call(s.f)
		if err != api.OK {
			t.Fatalf("%s = %d", name, err)
		}
		for i := range len(whole.Loose) - pieces {
			refused, _ := file.Refuse(s.f, i)
			dying, _ := file.Light(s.f, i)
			for want, f := range map[api.Errno]api.File{api.ErrIo: refused, api.ErrOff: dying} {
				g, c, r, err := call(f)
				if err != want || c != s.c || r != none || len(g.Loose) != pieces+i || g.Off != (want == api.ErrOff) || g.Fault != -1 || g.Fuse != -1 {
					t.Fatalf("%s whose operation %d fails = %v %d, %d pieces", name, i, r, err, len(g.Loose))
				}
				if err := coll.Check(g, c); err != api.OK {
					t.Fatalf("%s whose operation %d fails leaves a collection that is not valid: %d", name, i, err)
				}
				if want == api.ErrIo {
					if g, c, _, err := call(g); err != api.OK || coll.Check(g, c) != api.OK || c.Seq != s.c.Seq+1 {
						t.Fatalf("%s tried once more after operation %d failed = %d", name, i, err)
					}
				}
			}
		}
	}
	// A file with room for the body only.
	full := s.f
	gap := api.MaxFile - file.Len(full) - 40
	full, _ = file.Append(full, make([]byte, gap))
	g, c, r, err := coll.Put(full, s.c, "a", a, value.Int(9))
	if err != api.ErrFull || c != s.c || r != none || len(g.Loose) != len(full.Loose)+1 || coll.Check(g, c) != api.OK {
		t.Errorf("Put in a full file = %v %d", r, err)
	}
}
