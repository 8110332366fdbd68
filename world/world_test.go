package world_test

import (
	"math"
	"slices"
	"testing"

	"davenport/api"
	"davenport/db"
	"davenport/file"
	"davenport/model"
	"davenport/sample"
	"davenport/value"
	"davenport/world"
)

func sameReply(a, b api.Reply) bool {
	rows := slices.EqualFunc(a.Rows, b.Rows, func(x, y api.Row) bool {
		return value.Same(x.Key, y.Key) && x.Id == y.Id && x.Which == y.Which && value.Same(x.Value, y.Value)
	})
	groups := slices.EqualFunc(a.Groups, b.Groups, func(x, y api.Group) bool {
		return value.Same(x.Key, y.Key) && value.Same(x.Value, y.Value)
	})
	return rows && groups && a.Err == b.Err && a.Place == b.Place && a.Rev == b.Rev && a.Body == b.Body && a.Seq == b.Seq && a.Token == b.Token && slices.Equal(a.Changes, b.Changes)
}

func sameWorld(a, b api.World) bool {
	return file.Same(a.Db.File, b.Db.File) && a.Db.Coll == b.Db.Coll && slices.Equal(a.Db.Views, b.Db.Views) && a.Db.Gen == b.Db.Gen && model.Same(a.Model, b.Model) && slices.EqualFunc(a.May, b.May, model.Same)
}

func has(l []api.Model, m api.Model) bool {
	return slices.ContainsFunc(l, func(x api.Model) bool { return model.Same(x, m) })
}

func started(t *testing.T) api.World {
	t.Helper()
	w, err := world.New()
	if err != api.OK {
		t.Fatalf("New = %d", err)
	}
	return w
}

func op(o api.Op) api.Event {
	return api.Event{Kind: api.EvOp, Op: o}
}

func put(id string) api.Event {
	return op(api.Op{Kind: api.OpPut, Id: id, Text: `{"v":1}`})
}

func get(id string) api.Event {
	return op(api.Op{Kind: api.OpGet, Id: id})
}

func light(n int) api.Event { return api.Event{Kind: api.EvLight, N: n} }

func refuse(n int) api.Event { return api.Event{Kind: api.EvRefuse, N: n} }

var crash = api.Event{Kind: api.EvCrash, Tear: -1}

// ids are the ids of the documents of models.
func ids(l []api.Model) []string {
	var out []string
	for _, m := range l {
		s := ""
		for _, k := range m.Docs {
			s += k.Id
		}
		out = append(out, s)
	}
	return out
}

// P31.1
func TestNewSaysAndOutcomes(t *testing.T) {
	w := started(t)
	if w.Db.Gen != 1 || db.Check(w.Db) != api.OK || !model.Same(w.Model, api.Model{}) || len(w.May) != 0 {
		t.Errorf("New = %v", w)
	}
	if l := world.Outcomes(w); len(l) != 1 || !model.Same(l[0], api.Model{}) {
		t.Errorf("Outcomes of a new world = %v", l)
	}
	x := api.World{Model: api.Model{Seq: 1}, May: []api.Model{{Seq: 2}, {Seq: 3}}}
	if l := world.Outcomes(x); len(l) != 3 || l[0].Seq != 1 || l[1].Seq != 2 || l[2].Seq != 3 {
		t.Errorf("Outcomes = %v", l)
	}
	d := w.Db
	var rev string
	for i, o := range []api.Op{{Kind: api.OpPut, Id: "b", Text: "[1]"}, {Kind: api.OpPut, Id: "a", Text: "2"}, {Kind: api.OpPut, Id: "c", Text: "3"}, {Kind: api.OpDelete, Id: "a"}, {Kind: api.OpDefine, Id: "v", Text: "emit doc,id;"}, {Kind: api.OpDefine, Id: "u", Text: ""}} {
		if i == 3 {
			o.Rev = rev
		}
		var r api.Reply
		if d, r = db.Do(d, o); r.Err != api.OK {
			t.Fatal(r)
		}
		if i == 1 {
			rev = r.Rev
		}
	}
	m, err := world.Says(d)
	if err != api.OK || model.Check(m) != api.OK || m.Seq != 4 || !slices.Equal(ids([]api.Model{m}), []string{"abc"}) || !slices.Equal(m.Views, []api.Sight{{Name: "u"}, {Name: "v", Source: "emit doc,id;"}}) {
		t.Fatalf("Says = %v %d", m, err)
	}
	a, b := m.Docs[0], m.Docs[1]
	if !a.Deleted || a.Seq != 4 || a.Rev.Gen != 2 || a.Body.Kind != 0 || b.Deleted || b.Seq != 1 || b.Rev.Gen != 1 || b.Body.Kids[0].N != 1 {
		t.Errorf("Says = %v", m)
	}
	for want, change := range map[api.Errno]func(d *api.Db){api.ErrFile: func(d *api.Db) { d.File.Fuse, d.Gen = -2, 0 }, api.ErrDb: func(d *api.Db) { d.Gen = 0 }} {
		e := d
		change(&e)
		if m, err := world.Says(e); err != want || len(m.Docs)+len(m.Views) != 0 || m.Seq != 0 {
			t.Errorf("Says of a wrong database = %v %d", m, err)
		}
	}
}

// P31.2: the chapter's examples.
func TestExamples(t *testing.T) {
	w := started(t)
	do := func(ev api.Event, err, reply api.Errno, outcomes ...string) {
		t.Helper()
		var told api.Told
		w, told = world.Do(w, ev)
		if got := ids(world.Outcomes(w)); told.Err != err || told.Reply.Err != reply || !slices.Equal(got, outcomes) {
			t.Fatalf("Do(%v) = %d %d %q, want %d %d %q", ev, told.Err, told.Reply.Err, got, err, reply, outcomes)
		}
	}
	do(put("a"), api.OK, api.OK, "a")
	do(refuse(6), api.OK, api.OK, "a")
	do(put("b"), api.OK, api.ErrIo, "a", "ab")
	do(get("b"), api.OK, api.ErrNone, "a", "ab")
	saved := w
	do(crash, api.OK, api.OK, "a")
	do(get("b"), api.OK, api.ErrNone, "a")
	do(light(0), api.OK, api.OK, "a")
	do(put("b"), api.OK, api.ErrOff, "a", "ab")
	do(get("a"), api.OK, api.OK, "a", "ab")
	do(light(3), api.ErrOff, api.OK, "a", "ab")
	do(refuse(3), api.ErrOff, api.OK, "a", "ab")
	do(crash, api.OK, api.OK, "a")
	do(put("b"), api.OK, api.OK, "ab")
	for _, kind := range []int{0, 5, 9, -1, math.MaxInt, math.MinInt} {
		do(api.Event{Kind: kind, Op: put("c").Op}, api.ErrArg, api.OK, "ab")
	}
	// All pieces survive: what was refused is found.
	w = saved
	do(api.Event{Kind: api.EvCrash, Tear: -1, Keep: slices.Repeat([]bool{true}, 9)}, api.OK, api.OK, "ab")
	// A success leaves no other outcome; what is refused twice is there twice.
	w = saved
	do(refuse(0), api.OK, api.OK, "a", "ab")
	do(put("c"), api.OK, api.ErrIo, "a", "ab", "ac")
	do(put("a"), api.OK, api.ErrConflict, "a", "ab", "ac")
	do(put("d"), api.OK, api.OK, "ad")
}

// P31.2: events on the fuses, and errors that are the model's too.
func TestEvents(t *testing.T) {
	w := started(t)
	for _, x := range []struct {
		ev          api.Event
		fuse, fault int
	}{{light(5), 5, -1}, {light(-3), -1, -1}, {refuse(0), -1, 0}, {refuse(7), -1, 7}, {refuse(-1), -1, -1}} {
		v, told := world.Do(w, x.ev)
		if told.Err != api.OK || !sameReply(told.Reply, api.Reply{}) || v.Db.File.Fuse != x.fuse || v.Db.File.Fault != x.fault || v.Db.Gen != 1 {
			t.Errorf("Do(%v) = %v", x.ev, told)
		}
	}
	before := w
	if v, told := world.Do(w, api.Event{Kind: 77}); told.Err != api.ErrArg || !sameReply(told.Reply, api.Reply{}) || !sameWorld(v, before) {
		t.Errorf("Do of an unknown kind = %v", told)
	}
	w, _ = world.Do(w, put("a"))
	w, _ = world.Do(w, op(api.Op{Kind: api.OpDefine, Id: "v", Text: "emit doc,id;"}))
	w, _ = world.Do(w, refuse(0))
	// A query that is refused does not change the model, so nothing else may be found.
	v, told := world.Do(w, op(api.Op{Kind: api.OpQuery, Id: "v", Ask: api.Ask{Level: -1, Most: -1}}))
	if told.Reply.Err != api.ErrIo || len(v.May) != 0 || !model.Same(v.Model, w.Model) {
		t.Errorf("a refused query = %v, May %v", told, ids(v.May))
	}
	// An operation that fails for its own reasons does not meet the disk.
	v, told = world.Do(w, put("a"))
	if told.Reply.Err != api.ErrConflict || len(v.May) != 0 || v.Db.File.Fault != 0 {
		t.Errorf("a conflict = %v", told)
	}
	// A query that is answered commits, so that nothing else is found from then on.
	v, _ = world.Do(w, put("b"))
	if len(v.May) != 1 {
		t.Fatalf("May = %v", ids(v.May))
	}
	v, told = world.Do(v, op(api.Op{Kind: api.OpQuery, Id: "v", Ask: api.Ask{Level: -1, Most: -1}}))
	if told.Reply.Err != api.OK || len(v.May) != 0 || len(told.Reply.Rows) != 1 {
		t.Errorf("a query = %v, May %v", told, ids(v.May))
	}
}

// check checks what is promised of each event.
func check(t *testing.T, w, v api.World, ev api.Event, told api.Told) {
	t.Helper()
	says, err := world.Says(v.Db)
	if err != api.OK || !model.Same(says, v.Model) {
		t.Fatalf("after %v the model is %v, the database says %v %d", ev, v.Model, says, err)
	}
	switch ev.Kind {
	case api.EvOp:
		next, want := model.Do(w.Model, ev.Op)
		disk := told.Reply.Err == api.ErrIo || told.Reply.Err == api.ErrOff || told.Reply.Err == api.ErrFull
		if !disk && (!sameReply(told.Reply, want) || !model.Same(v.Model, next)) || disk && !model.Same(v.Model, w.Model) {
			t.Fatalf("Do(%v) = %v, want %v", ev.Op, told.Reply, want)
		}
		if disk && len(told.Reply.Changes)+len(told.Reply.Rows)+len(told.Reply.Groups)+int(told.Reply.Seq) > 0 {
			t.Fatalf("Do(%v) is refused with %v", ev.Op, told.Reply)
		}
		if told.Reply.Err == api.ErrIo && w.Db.File.Fault < 0 || told.Reply.Err == api.ErrOff && w.Db.File.Fuse < 0 && !w.Db.File.Off {
			t.Fatalf("Do(%v) is refused for no reason", ev.Op)
		}
		if told.Reply.Err == api.ErrFull && api.MaxFile-file.Len(w.Db.File) >= api.MaxNeed {
			t.Fatalf("Do(%v) finds the file full", ev.Op)
		}
	case api.EvCrash:
		if told.Err != api.OK || !has(world.Outcomes(w), v.Model) || len(v.May) != 0 || v.Db.File.Off || len(v.Db.File.Loose) != 0 {
			t.Fatalf("Do(%v) = %d, the model %v is none of %v", ev, told.Err, v.Model, world.Outcomes(w))
		}
	}
	if told.Err != api.OK && !sameWorld(v, w) {
		t.Fatalf("Do(%v) fails with %d and changes the world", ev, told.Err)
	}
}

// P31.3: random events, with all sorts of faults.
func TestRandomEvents(t *testing.T) {
	for seed := range uint64(30) {
		random, past := sample.New(100+seed), sample.NewPast()
		w := started(t)
		for range 60 {
			ev := op(random.Op(past))
			switch random.Below(8) {
			case 0:
				ev = refuse(random.Below(10))
			case 1:
				if random.Below(2) == 0 {
					ev = light(random.Below(12))
				}
			case 2:
				ev = api.Event{Kind: api.EvCrash, Tear: random.Below(12) - 1, N: random.Below(80) - 1}
				for range random.Below(12) {
					ev.Keep = append(ev.Keep, random.Below(3) > 0)
				}
			}
			before := w
			before.May, before.Db.Views = slices.Clone(w.May), slices.Clone(w.Db.Views)
			v, told := world.Do(w, ev)
			check(t, w, v, ev, told)
			if !sameWorld(w, before) {
				t.Fatalf("Do(%v) changes its argument", ev)
			}
			if ev.Kind == api.EvOp {
				past.Note(ev.Op, told.Reply)
			}
			if w = v; file.Len(w.Db.File) > api.MaxFile-api.MaxNeed {
				break
			}
		}
	}
}

// P31.3: an operation is refused at each place, and then the power is lost, with each piece torn at several places.
func TestEveryPlace(t *testing.T) {
	w := started(t)
	for _, ev := range []api.Event{put("a"), op(api.Op{Kind: api.OpDefine, Id: "v", Text: "emit doc.v,id;"}), put("b")} {
		w, _ = world.Do(w, ev)
	}
	rev := w.Model.Docs[0].Rev
	text := "1-" + hex(rev.Mark)
	for _, ev := range []api.Event{put("c"), op(api.Op{Kind: api.OpDelete, Id: "a", Rev: text}), op(api.Op{Kind: api.OpDefine, Id: "u"}), op(api.Op{Kind: api.OpDrop, Id: "v"}), op(api.Op{Kind: api.OpQuery, Id: "v", Ask: api.Ask{Level: -1, Most: -1}})} {
		for n := range 20 {
			for _, fault := range []api.Event{refuse(n), light(n)} {
				x, _ := world.Do(w, fault)
				y, told := world.Do(x, ev)
				check(t, x, y, ev, told)
				// One more operation after the refused one, so that there are several outcomes.
				z := y
				if n%3 == 0 && !y.Db.File.Off {
					a, _ := world.Do(y, refuse(n%7))
					b, told := world.Do(a, put("d"))
					check(t, a, b, put("d"), told)
					z = b
				}
				pieces := len(z.Db.File.Loose)
				for tear := -1; tear < pieces; tear++ {
					for _, cut := range []int{0, 1, 30, 63, 64, 65, 127, math.MaxInt} {
						for _, all := range []bool{true, false} {
							ev := api.Event{Kind: api.EvCrash, Keep: slices.Repeat([]bool{all}, pieces), Tear: tear, N: cut}
							v, told := world.Do(z, ev)
							check(t, z, v, ev, told)
						}
						if tear < 0 {
							break
						}
					}
				}
			}
		}
	}
}

func hex(n uint32) string {
	out := ""
	for shift := 28; shift >= 0; shift -= 4 {
		out += string("0123456789abcdef"[n>>shift&15])
	}
	return out
}

// P31.3: the file becomes full, and from then on nothing is lost.
func TestFullFile(t *testing.T) {
	w := started(t)
	w, _ = world.Do(w, put("a"))
	w.Db.File, _ = file.Append(w.Db.File, make([]byte, api.MaxFile-api.MaxNeed-file.Len(w.Db.File)))
	full := 0
	for i := range 400 {
		ev := put(sample.Name(i % 7))
		for _, k := range w.Model.Docs {
			if k.Id == ev.Op.Id {
				ev = op(api.Op{Kind: api.OpDelete, Id: k.Id, Rev: gen(k.Rev) + "-" + hex(k.Rev.Mark)})
				if k.Deleted {
					ev = put(k.Id)
				}
			}
		}
		v, told := world.Do(w, ev)
		check(t, w, v, ev, told)
		if w = v; told.Reply.Err == api.ErrFull {
			full++
		}
		if full > 5 {
			break
		}
	}
	if full == 0 {
		t.Error("the file did not become full")
	}
	v, told := world.Do(w, crash)
	check(t, w, v, crash, told)
}

func gen(r api.Rev) string {
	out := ""
	for n := r.Gen; n > 0; n /= 10 {
		out = string("0123456789"[n%10]) + out
	}
	return out
}
