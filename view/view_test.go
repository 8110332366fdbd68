package view_test

import (
	"bytes"
	"slices"
	"strings"
	"testing"

	"davenport/api"
	"davenport/batch"
	"davenport/coll"
	"davenport/file"
	"davenport/merge"
	"davenport/rows"
	"davenport/sample"
	"davenport/tree"
	"davenport/value"
	"davenport/vcheck"
	"davenport/veval"
	"davenport/view"
)

const plain = "emit doc,id;"

// store is a file with a collection, the current revisions, and the bodies of the documents that exist.
type store struct {
	t      *testing.T
	f      api.File
	c      api.Coll
	revs   map[string]api.Rev
	bodies map[string]api.Value
}

func empty(t *testing.T) *store {
	return &store{t, file.New(), api.Coll{}, map[string]api.Rev{}, map[string]api.Value{}}
}

func (s *store) put(id string, body api.Value) {
	s.t.Helper()
	f, c, r, err := coll.Put(s.f, s.c, id, s.revs[id], body)
	if err != api.OK {
		s.t.Fatalf("Put(%s) = %d", id, err)
	}
	s.f, s.c, s.revs[id], s.bodies[id] = f, c, r, body
}

func (s *store) drop(id string) {
	s.t.Helper()
	f, c, _, err := coll.Delete(s.f, s.c, id, s.revs[id])
	if err != api.OK {
		s.t.Fatalf("Delete(%s) = %d", id, err)
	}
	s.f, s.c = f, c
	delete(s.revs, id)
	delete(s.bodies, id)
}

// rows are the rows of all documents under a program.
func (s *store) rows(source string) []api.Row {
	s.t.Helper()
	p, _, err := vcheck.Compile(source)
	if err != api.OK {
		s.t.Fatalf("Compile(%s) = %d", source, err)
	}
	var out []api.Row
	for id, body := range s.bodies {
		l, _ := veval.Map(p, id, body)
		for i, e := range l {
			out = append(out, api.Row{Key: e.Key, Id: id, Which: i, Value: e.Value})
		}
	}
	slices.SortFunc(out, func(a, b api.Row) int {
		x, _ := rows.Item(a)
		y, _ := rows.Item(b)
		return bytes.Compare(x.Key, y.Key)
	})
	return out
}

func sameRows(a, b []api.Row) bool {
	return slices.EqualFunc(a, b, func(x, y api.Row) bool {
		return value.Same(x.Key, y.Key) && x.Id == y.Id && x.Which == y.Which && value.Same(x.Value, y.Value)
	})
}

func (s *store) catch(v api.View) api.View {
	s.t.Helper()
	f, w, err := view.Catch(s.f, s.c, v)
	if err != api.OK || w.Seq != s.c.Seq || w.Name != v.Name || w.Source != v.Source {
		s.t.Fatalf("Catch = %v %d", w, err)
	}
	if err := view.Check(f, s.c, w); err != api.OK {
		s.t.Fatalf("Check after Catch = %d", err)
	}
	s.f = f
	return w
}

func (s *store) expect(v api.View, want []api.Row) {
	s.t.Helper()
	if got, err := view.All(s.f, s.c, v); !sameRows(got, want) || err != api.OK {
		s.t.Fatalf("All = %v %d, want %v", got, err, want)
	}
}

func made(t *testing.T, source string) api.View {
	t.Helper()
	v, at, err := view.New("v", source)
	if err != api.OK || at != 0 {
		t.Fatalf("New = %d %d", at, err)
	}
	return v
}

// P27.1
func TestNew(t *testing.T) {
	for _, src := range []string{"", plain, "for x in doc{emit x,1;}"} {
		if v, at, err := view.New("by-1", src); v != (api.View{Name: "by-1", Source: src}) || at != 0 || err != api.OK {
			t.Errorf("New(%s) = %v %d %d", src, v, at, err)
		}
	}
	for _, x := range []struct{ name, src string }{{"V", plain}, {"", plain}, {strings.Repeat("v", 25), "emit 1;"}, {"V", "emit x,1;"}} {
		if v, at, err := view.New(x.name, x.src); v != (api.View{}) || at != 0 || err != api.ErrId {
			t.Errorf("New(%s) = %v %d %d", x.name, v, at, err)
		}
	}
	for _, src := range []string{"emit 1;", "emit x,1;", "?", "for doc in doc{}", strings.Repeat(" ", 513), "emit 1,2; emit 1.5", "for x in doc{for y in doc{for z in doc{}}}"} {
		_, wantAt, want := vcheck.Compile(src)
		if v, at, err := view.New("v", src); v != (api.View{}) || at != wantAt || err != want || err == api.OK {
			t.Errorf("New(%.20s) = %v %d %d, want %d %d", src, v, at, err, wantAt, want)
		}
	}
}

// P27: the chapter's example.
func TestExample(t *testing.T) {
	s := empty(t)
	v := made(t, plain)
	s.put("a", value.Int(2))
	s.put("b", value.Int(1))
	s.expect(v, nil)
	v = s.catch(v)
	before := s.rows(plain)
	s.expect(v, before)
	if len(before) != 2 || before[0].Id != "b" || before[1].Key.N != 2 {
		t.Fatalf("the rows are %v", before)
	}
	s.put("a", value.Int(0))
	s.drop("b")
	s.expect(v, before)
	v = s.catch(v)
	s.expect(v, s.rows(plain))
	if f, w, err := view.Catch(s.f, s.c, v); !file.Same(f, s.f) || w != v || err != api.OK {
		t.Errorf("Catch of a view that is up to date = %v %d", w, err)
	}
}

var sources = []string{plain, "", "emit id,doc;", "for x in doc{emit x,id;}", "emit kind doc,1;emit size doc,doc;", "for x in doc{for y in x{emit[kind x,y],x;}}emit 0,0;", "if kind doc==\"int\"{emit doc,doc;}else{emit null,id;emit null,id;}"}

// P27.2 to P27.4: views brought up to date at different times.
func TestCatch(t *testing.T) {
	random := sample.New(27)
	for range 3 {
		s := empty(t)
		var views []api.View
		var caught [][]api.Row
		for _, src := range sources {
			views, caught = append(views, made(t, src)), append(caught, nil)
		}
		for range 25 {
			for range 1 + random.Below(6) {
				id := sample.Name(random.Below(10))
				if _, ok := s.bodies[id]; ok && random.Below(3) == 0 {
					s.drop(id)
				} else {
					s.put(id, random.Value(3))
				}
			}
			for i := range views {
				if random.Below(3) == 0 {
					views[i], caught[i] = s.catch(views[i]), s.rows(sources[i])
				}
				s.expect(views[i], caught[i])
			}
			if s.f, _ = file.Sync(s.f); file.Len(s.f) > api.MaxFile*3/4 {
				break
			}
		}
		for i := range views {
			s.expect(s.catch(views[i]), s.rows(sources[i]))
			s.expect(s.catch(made(t, sources[i])), s.rows(sources[i]))
		}
	}
}

// P27.2: all documents at once, each with as many long rows as there may be.
func TestTheMostRows(t *testing.T) {
	s := empty(t)
	src := `emit[doc,1],doc;emit[doc,2],doc;emit[doc,3],doc;emit[doc,4],doc;`
	for i := range api.MaxDocs {
		s.put("d"+strings.Repeat("x", 20)+string(rune('a'+i/10))+string(rune('0'+i%10)), api.Value{Kind: api.VText, S: strings.Repeat("k", 50+i%20)})
	}
	before := file.Len(s.f)
	v := s.catch(made(t, src))
	s.expect(v, s.rows(src))
	if len(s.rows(src)) != api.MaxDocs*api.MaxEmits || file.Len(s.f)-before > api.MaxNeed {
		t.Errorf("%d rows take %d bytes", len(s.rows(src)), file.Len(s.f)-before)
	}
	for id := range s.revs {
		s.put(id, value.Int(5))
	}
	v = s.catch(v)
	s.expect(v, s.rows(src))
}

// P27.2, P27.4: each operation of the file fails in turn.
func TestFailingOperations(t *testing.T) {
	s := empty(t)
	src := "for x in doc{emit x,id;}"
	for i := range 12 {
		s.put(sample.Name(i), api.Value{Kind: api.VList, Kids: []api.Value{value.Int(int64(i)), value.Int(int64(-i)), value.Null()}})
	}
	v := s.catch(made(t, src))
	before := s.rows(src)
	for i := range 6 {
		s.put(sample.Name(2*i), api.Value{Kind: api.VList, Kids: []api.Value{value.Int(7)}})
	}
	s.f, _ = file.Sync(s.f)
	whole, _, err := view.Catch(s.f, s.c, v)
	if err != api.OK || len(whole.Loose) < 2 {
		t.Fatalf("Catch = %d, %d pieces", err, len(whole.Loose))
	}
	for i := range len(whole.Loose) {
		refused, _ := file.Refuse(s.f, i)
		dying, _ := file.Light(s.f, i)
		for want, f := range map[api.Errno]api.File{api.ErrIo: refused, api.ErrOff: dying} {
			g, w, err := view.Catch(f, s.c, v)
			if err != want || w != v || len(g.Loose) != i || g.Off != (want == api.ErrOff) || g.Fuse != -1 || g.Fault != -1 {
				t.Fatalf("Catch whose operation %d fails = %v %d", i, w, err)
			}
			if got, err := view.All(g, s.c, w); !sameRows(got, before) || err != api.OK {
				t.Fatalf("All after operation %d failed = %v %d", i, got, err)
			}
			if want == api.ErrIo {
				again, w, err := view.Catch(g, s.c, v)
				if got, e := view.All(again, s.c, w); err != api.OK || e != api.OK || !sameRows(got, s.rows(src)) {
					t.Fatalf("Catch tried once more = %d, %v", err, got)
				}
			}
		}
	}
	full, _ := file.Append(s.f, make([]byte, api.MaxFile-file.Len(s.f)-10))
	if g, w, err := view.Catch(full, s.c, v); err != api.ErrFull || w != v || file.Len(g) != file.Len(full) {
		t.Errorf("Catch in a full file = %v %d", w, err)
	}
}

// refuse checks that all functions return an error and leave everything as it was.
func (s *store) refuse(name string, v api.View, want api.Errno) {
	s.t.Helper()
	if err := view.Check(s.f, s.c, v); err != want {
		s.t.Errorf("%s: Check = %d, want %d", name, err, want)
	}
	if f, w, err := view.Catch(s.f, s.c, v); err != want || w != v || len(f.Loose) != len(s.f.Loose) || f.Fuse != s.f.Fuse {
		s.t.Errorf("%s: Catch = %v %d, want %d", name, w, err, want)
	}
	if l, err := view.All(s.f, s.c, v); err != want || len(l) != 0 {
		s.t.Errorf("%s: All = %v %d, want %d", name, l, err, want)
	}
}

// edit puts or removes items of a tree.
func (s *store) edit(x api.Tree, put bool, items ...api.Item) api.Tree {
	s.t.Helper()
	var l []api.Edit
	for _, y := range items {
		e := api.Edit{Key: y.Key}
		if put {
			e = api.Edit{Key: y.Key, Put: true, Value: y.Value, Int: y.Int, N: y.N}
		}
		l = append(l, e)
	}
	l, _ = merge.Sort(l)
	f, out, err := batch.Apply(s.f, x, l)
	if err != api.OK {
		s.t.Fatalf("Apply = %d", err)
	}
	s.f = f
	return out
}

// P27.1: each thing that a valid view must have is taken from it.
func TestCheck(t *testing.T) {
	s := empty(t)
	for i := range 8 {
		s.put(sample.Name(i), value.Int(int64(i)))
	}
	s.drop("d3")
	right := s.catch(made(t, plain))
	s.put("d1", value.Int(50))
	if err := view.Check(s.f, s.c, right); err != api.OK {
		t.Fatalf("Check = %d", err)
	}
	item := func(r api.Row) api.Item { x, _ := rows.Item(r); return x }
	trace := func(r api.Row) api.Item { x, _ := rows.Trace(r); return x }
	with := func(change func(v *api.View)) api.View {
		v := right
		change(&v)
		return v
	}
	row := func(id string, n int64, which int) api.Row {
		return api.Row{Key: value.Int(n), Id: id, Which: which, Value: api.Value{Kind: api.VText, S: id}}
	}
	add := func(r api.Row) api.View {
		return with(func(v *api.View) { v.Rows, v.Back = s.edit(v.Rows, true, item(r)), s.edit(v.Back, true, trace(r)) })
	}
	remove := func(r api.Row) api.View {
		return with(func(v *api.View) {
			v.Rows, v.Back = s.edit(v.Rows, false, item(r)), s.edit(v.Back, false, trace(r))
		})
	}
	none := func(v *api.View) { v.Rows, v.Back = api.Tree{}, api.Tree{} }
	for name, v := range map[string]api.View{
		"a wrong name":                      with(func(v *api.View) { v.Name = "V" }),
		"no name":                           with(func(v *api.View) { v.Name = "" }),
		"a source that does not compile":    with(func(v *api.View) { v.Source = "emit x,1;" }),
		"a source with a syntax error":      with(func(v *api.View) { v.Source = "emit" }),
		"another source":                    with(func(v *api.View) { v.Source = "emit doc,doc;" }),
		"a source with fewer rows":          with(func(v *api.View) { v.Source = "" }),
		"a source with more rows":           with(func(v *api.View) { v.Source = plain + plain }),
		"a Seq that is too great":           with(func(v *api.View) { v.Seq = s.c.Seq + 1 }),
		"a Seq that is later than its rows": with(func(v *api.View) { v.Seq = s.c.Seq }),
		"no rows":                           with(none),
		"wrong rows":                        with(func(v *api.View) { v.Rows.At++ }),
		"wrong traces":                      with(func(v *api.View) { v.Back.At++ }),
		"rows without traces":               with(func(v *api.View) { v.Back = api.Tree{} }),
		"traces without rows":               with(func(v *api.View) { v.Rows = api.Tree{} }),
		"the trees exchanged":               with(func(v *api.View) { v.Rows, v.Back = v.Back, v.Rows }),
		"a row less":                        remove(row("d2", 2, 0)),
		"a row more":                        add(row("d2", 3, 1)),
		"a row of a deleted document":       add(row("d3", 3, 0)),
		"a row of an unknown document":      add(row("x", 3, 0)),
		"another row":                       with(func(v *api.View) { *v = add(row("d2", 9, 0)); v.Rows = s.edit(v.Rows, false, item(row("d2", 2, 0))) }),
		"a row without its trace":           with(func(v *api.View) { v.Rows = s.edit(v.Rows, true, item(row("d1", 3, 1))) }),
		"a trace without its row":           with(func(v *api.View) { v.Back = s.edit(v.Back, true, trace(row("d1", 3, 1))) }),
		"a row and another trace": with(func(v *api.View) {
			v.Rows, v.Back = s.edit(v.Rows, true, item(row("d1", 3, 1))), s.edit(v.Back, true, trace(row("d1", 4, 1)))
		}),
		"what is no row": with(func(v *api.View) {
			v.Rows, v.Back = s.edit(v.Rows, true, api.Item{Key: []byte("x")}), s.edit(v.Back, true, trace(row("d1", 3, 1)))
		}),
		"a row with another value": with(func(v *api.View) {
			r := row("d2", 2, 0)
			r.Value.S = "other"
			v.Rows = s.edit(v.Rows, true, item(r))
		}),
	} {
		s.refuse(name, v, api.ErrView)
	}
	for name, v := range map[string]api.View{"fewer rows of a document that has changed": remove(row("d1", 1, 0)), "more rows of a document that has changed": add(row("d1", 7, 1)), "another name": with(func(v *api.View) { v.Name = "other" }), "a new view": made(t, plain)} {
		if err := view.Check(s.f, s.c, v); err != api.OK {
			t.Errorf("%s: Check = %d", name, err)
			continue
		}
		before, _ := tree.Range(s.f, v.Rows, api.Bounds{}, false, -1)
		if l, err := view.All(s.f, s.c, v); len(l) != len(before) || err != api.OK {
			t.Errorf("%s: All = %v %d", name, l, err)
		}
		s.expect(s.catch(v), s.rows(plain))
	}
	wrong := with(func(v *api.View) { v.Name = "V" })
	c := s.c
	s.c.Seq = 1
	s.refuse("a wrong collection", wrong, api.ErrColl)
	s.f.Fuse = -2
	s.refuse("a wrong file", wrong, api.ErrFile)
	s.c, s.f.Fuse = c, -1
}
