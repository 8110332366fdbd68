package console_test

import (
	"math"
	"slices"
	"strconv"
	"strings"
	"testing"

	"davenport/api"
	"davenport/console"
	"davenport/doc"
	"davenport/feed"
	"davenport/sample"
	"davenport/value"
	"davenport/world"
)

const plainQuery = `{"after":false,"ahead":false,"kind":0,"level":-1,"most":-1,"turned":false}`

func op(o api.Op) api.Event {
	return api.Event{Kind: api.EvOp, Op: o}
}

func put(id, rev, text string) api.Event {
	return op(api.Op{Kind: api.OpPut, Id: id, Rev: rev, Text: text})
}

func ask(id string, a api.Ask) api.Event {
	return op(api.Op{Kind: api.OpQuery, Id: id, Ask: a})
}

func text(s string) api.Value { return api.Value{Kind: api.VText, S: s} }

func sameValue(a, b api.Value) bool {
	return a.Kind == b.Kind && a.N == b.N && a.S == b.S && slices.Equal(a.Keys, b.Keys) && slices.EqualFunc(a.Kids, b.Kids, sameValue)
}

func same(a, b api.Event) bool {
	x, y := a.Op.Ask, b.Op.Ask
	asks := x.HasFrom == y.HasFrom && x.HasTo == y.HasTo && x.After == y.After && x.Ahead == y.Ahead && x.Turned == y.Turned && x.Most == y.Most && x.Level == y.Level && x.Kind == y.Kind && sameValue(x.From, y.From) && sameValue(x.To, y.To)
	ops := a.Op.Kind == b.Op.Kind && a.Op.Id == b.Op.Id && a.Op.Rev == b.Op.Rev && a.Op.Text == b.Op.Text && a.Op.Token == b.Op.Token && a.Op.Most == b.Op.Most
	return asks && ops && a.Kind == b.Kind && a.N == b.N && a.Tear == b.Tear && slices.Equal(a.Keep, b.Keep)
}

type known struct {
	ev   api.Event
	line string
}

func knownLines() []known {
	keep := make([]bool, 200)
	keep[1] = true
	full := api.Ask{HasFrom: true, From: api.Value{Kind: api.VList, Kids: []api.Value{value.Int(1), text("x y")}}, HasTo: true, To: value.Null(), After: true, Ahead: true, Turned: true, Most: 5, Level: 2, Kind: api.RdStats}
	return []known{
		{put("a", "", `{"v":1}`), `put a - {"v":1}`}, {put("a", "1-x", ""), "put a 1-x "}, {put("A!", "--", "  x  y "), "put A! --   x  y "}, {put("é", "\t", "\r\x00\xff"), "put é \t \r\x00\xff"}, {put("-", "", "-"), "put - - -"},
		{op(api.Op{Kind: api.OpDelete, Id: "a"}), "delete a -"}, {op(api.Op{Kind: api.OpDelete, Id: "a", Rev: "2-00000001"}), "delete a 2-00000001"}, {op(api.Op{Kind: api.OpGet, Id: "a"}), "get a"}, {op(api.Op{Kind: api.OpGet, Id: "-"}), "get -"},
		{op(api.Op{Kind: api.OpDefine, Id: "v", Text: "emit doc.v,id;"}), "define v emit doc.v,id;"}, {op(api.Op{Kind: api.OpDefine, Id: "v"}), "define v "}, {op(api.Op{Kind: api.OpDefine, Id: "v", Text: " "}), "define v  "}, {op(api.Op{Kind: api.OpDrop, Id: "v"}), "drop v"},
		{ask("v", api.Ask{Level: -1, Most: -1}), "query v " + plainQuery}, {ask("v", full), `query v {"after":true,"ahead":true,"from":[1,"x y"],"kind":5,"level":2,"most":5,"to":null,"turned":true}`}, {ask("v", api.Ask{Level: -1, After: true, HasTo: true, To: text("\n")}), `query v {"after":true,"ahead":false,"kind":0,"level":-1,"most":0,"to":"\n","turned":false}`}, {ask("v", api.Ask{Level: -1, Kind: math.MinInt, Most: math.MaxInt}), `query v {"after":false,"ahead":false,"kind":-9223372036854775808,"level":-1,"most":9223372036854775807,"turned":false}`},
		{ask("v", api.Ask{Level: -1, HasFrom: true, From: sample.Nest(7)}), `query v {"after":false,"ahead":false,"from":[[[[[[[null]]]]]]],"kind":0,"level":-1,"most":0,"turned":false}`},
		{op(api.Op{Kind: api.OpChanges, Most: 9}), "changes - 9"}, {op(api.Op{Kind: api.OpChanges, Token: "7.x", Most: -3}), "changes 7.x -3"}, {op(api.Op{Kind: api.OpChanges, Most: math.MinInt}), "changes - -9223372036854775808"},
		{api.Event{Kind: api.EvLight}, "light 0"}, {api.Event{Kind: api.EvLight, N: -1}, "light -1"}, {api.Event{Kind: api.EvRefuse, N: math.MaxInt}, "refuse 9223372036854775807"},
		{api.Event{Kind: api.EvCrash, Tear: -1}, "crash -1 0 ="}, {api.Event{Kind: api.EvCrash, Tear: 2, N: 30, Keep: []bool{true, false, true}}, "crash 2 30 =101"}, {api.Event{Kind: api.EvCrash, Keep: keep}, "crash 0 0 =01" + strings.Repeat("0", 198)},
	}
}

// P32.1
func TestPrintAndParse(t *testing.T) {
	for _, x := range knownLines() {
		if line, err := console.Print(x.ev); line != x.line || err != api.OK {
			t.Errorf("Print(%v) = %q %d, want %q", x.ev, line, err, x.line)
		}
		if ev, err := console.Parse(x.line); !same(ev, x.ev) || err != api.OK {
			t.Errorf("Parse(%q) = %v %d", x.line, ev, err)
		}
	}
}

// P32.1: events that have no line.
func TestEventsWithoutALine(t *testing.T) {
	deep := api.Ask{Level: -1, HasFrom: true, From: sample.Nest(8)}
	wide := api.Ask{Level: -1, HasFrom: true, From: sample.Wide(250)}
	long := api.Ask{Level: -1, HasTo: true, To: text(strings.Repeat("x", 2000))}
	events := []api.Event{
		{}, {Kind: 5}, {Kind: -1}, op(api.Op{}), op(api.Op{Kind: 8, Id: "a"}), op(api.Op{Kind: -1, Id: "a"}),
		put("", "", "x"), put("a b", "", "x"), put("a\n", "", "x"), put("a", "-", "x"), put("a", "x y", "x"), put("a", "x\n", "x"), put("a", "", "x\ny"), put("a", "", "\n"),
		op(api.Op{Kind: api.OpDelete}), op(api.Op{Kind: api.OpDelete, Id: "a", Rev: "-"}), op(api.Op{Kind: api.OpDelete, Id: "a", Rev: " "}), op(api.Op{Kind: api.OpDelete, Id: "a", Rev: "b c"}), op(api.Op{Kind: api.OpDelete, Id: " a"}), op(api.Op{Kind: api.OpGet}), op(api.Op{Kind: api.OpGet, Id: "a b"}), op(api.Op{Kind: api.OpGet, Id: "\n"}), op(api.Op{Kind: api.OpDrop, Id: ""}), op(api.Op{Kind: api.OpDrop, Id: "a "}), op(api.Op{Kind: api.OpDefine, Text: "x"}), op(api.Op{Kind: api.OpDefine, Id: "v", Text: "x\n"}), op(api.Op{Kind: api.OpDefine, Id: "v w", Text: "x"}),
		op(api.Op{Kind: api.OpChanges, Token: "-"}), op(api.Op{Kind: api.OpChanges, Token: "a b"}), op(api.Op{Kind: api.OpChanges, Token: "a\n"}),
		ask("", api.Ask{Level: -1}), ask("a b", api.Ask{Level: -1}), ask("v", api.Ask{Level: -2}), ask("v", api.Ask{}), ask("v", api.Ask{Level: 256, Kind: 1}), ask("v", api.Ask{Level: -1, HasFrom: true}), ask("v", api.Ask{Level: -1, From: value.Null()}), ask("v", api.Ask{Level: -1, To: value.Null()}), ask("v", api.Ask{Level: -1, From: api.Value{N: 1}}), ask("v", deep), ask("v", wide), ask("v", long),
		{Kind: api.EvCrash, Keep: make([]bool, 201)},
	}
	shows := map[int]string{api.OpPut: "Id Rev Text", api.OpDelete: "Id Rev", api.OpGet: "Id", api.OpDefine: "Id Text", api.OpDrop: "Id", api.OpQuery: "Id Ask", api.OpChanges: "Token Most"}
	extras := []struct {
		field  string
		change func(ev *api.Event)
	}{
		{"Id", func(ev *api.Event) { ev.Op.Id = "x" }}, {"Rev", func(ev *api.Event) { ev.Op.Rev = "x" }}, {"Text", func(ev *api.Event) { ev.Op.Text = "x" }}, {"Token", func(ev *api.Event) { ev.Op.Token = "x" }}, {"Most", func(ev *api.Event) { ev.Op.Most = 1 }}, {"N", func(ev *api.Event) { ev.N = 1 }}, {"Tear", func(ev *api.Event) { ev.Tear = 1 }}, {"Keep", func(ev *api.Event) { ev.Keep = []bool{false} }}, {"Kind", func(ev *api.Event) { ev.Op.Kind = api.OpGet }},
		{"Ask", func(ev *api.Event) { ev.Op.Ask.Turned = true }}, {"Ask", func(ev *api.Event) { ev.Op.Ask.HasFrom = true }}, {"Ask", func(ev *api.Event) { ev.Op.Ask.To.S = "x" }}, {"Ask", func(ev *api.Event) { ev.Op.Ask.Kind = 1 }}, {"Ask", func(ev *api.Event) { ev.Op.Ask.Most = 1 }}, {"Ask", func(ev *api.Event) { ev.Op.Ask.Level = 1 }}, {"Ask", func(ev *api.Event) { ev.Op.Ask.From.Keys = []string{"x"} }},
	}
	for _, x := range knownLines() {
		shown := "Kind " + shows[x.ev.Op.Kind]
		switch x.ev.Kind {
		case api.EvLight, api.EvRefuse:
			shown = "N"
		case api.EvCrash:
			shown = "N Tear Keep"
		}
		for _, e := range extras {
			if ev := x.ev; !strings.Contains(shown, e.field) {
				e.change(&ev)
				events = append(events, ev)
			}
		}
	}
	for _, ev := range events {
		if line, err := console.Print(ev); line != "" || err != api.ErrLine {
			t.Errorf("Print(%v) = %q %d", ev, line, err)
		}
		for _, told := range []api.Told{{}, {Err: api.ErrArg}, {Reply: api.Reply{Err: api.ErrNone}}} {
			if s := console.Lines(ev, told); s != "" {
				t.Errorf("Lines(%v) = %q", ev, s)
			}
		}
	}
}

// P32.1, P32.4: lines that are no event's, among them other texts for an event.
func TestWrongLines(t *testing.T) {
	wrong := []string{
		"", " ", "put", "put ", "put a", "put a -", "put a  x", "put  - x", "put a - x\n", "Put a - x", " put a - x", "put\ta - x", "delete", "delete a", "delete a ", "delete a - ", "delete a - x", "delete  -", "delete a  ", "get", "get ", "get a b", "get a ", " get a", "get  a", "get a\n", "GET a", "gets a", "define", "define v", "define  x", "drop", "drop v w", "drop ",
		"query", "query v", "query v ", "query v {}", "query v x", "query " + plainQuery, "query v " + plainQuery + " ", "query v  " + plainQuery, "query v " + strings.Replace(plainQuery, ":", ": ", 1), `query v {"ahead":false,"after":false,"kind":0,"level":-1,"most":-1,"turned":false}`, `query v {"after":false,"ahead":false,"kind":0,"level":-1,"most":-1}`, `query v {"after":0,"ahead":false,"kind":0,"level":-1,"most":-1,"turned":false}`, `query v {"after":1,"ahead":false,"kind":0,"level":-1,"most":-1,"turned":false}`, `query v {"after":false,"ahead":false,"kind":false,"level":-1,"most":-1,"turned":false}`, `query v {"after":false,"ahead":false,"kind":0,"level":-1,"more":1,"most":-1,"turned":false}`, `query v {"after":false,"ahead":false,"kind":0,"level":-2,"most":-1,"turned":false}`, `query v {"after":false,"ahead":false,"kind":0,"level":0,"most":-1,"turned":false}`, `query v {"after":false,"ahead":false,"kind":0,"level":-1,"most":"1","turned":false}`, `query v [1]`, `query v {"after":false,"ahead":false,"from":"\u0041","kind":0,"level":-1,"most":-1,"turned":false}`,
		"changes", "changes -", "changes 9", "changes - x", "changes - 9 ", "changes - 01", "changes - -0", "changes - +1", "changes - 1.0", "changes - ", "changes  9", "changes - 9223372036854775808", "changes - 1e1",
		"light", "light ", "light 01", "light x", "light -", "light 1 2", "light -0", "light 9223372036854775808", "refuse", "refuse 00", "refuse 1 ", "light 1.5",
		"crash", "crash 0", "crash 0 0", "crash 0 0 ", "crash 0 0 1", "crash 0 0 =2", "crash 0 0 = ", "crash 0 0 =1 ", "crash 0 0 =1 0", "crash 0 0 = 1", "crash 00 0 =", "crash 0 00 =", "crash 0 =", "crash x 0 =", "crash 0 0 ==", "crash 0 0 =" + strings.Repeat("0", 201), "crash 0 0 =é", "crash 0  0 =",
	}
	for _, line := range wrong {
		if ev, err := console.Parse(line); !same(ev, api.Event{}) || err != api.ErrLine {
			t.Errorf("Parse(%q) = %v %d", line, ev, err)
		}
	}
	for _, x := range knownLines() {
		if ev, err := console.Parse(x.line + "\n"); err != api.ErrLine {
			t.Errorf("Parse of %q and a line feed = %v %d", x.line, ev, err)
		}
		// No other text near the line is the same event's.
		for i := range x.line {
			for _, other := range []string{x.line[:i] + x.line[i+1:], x.line[:i] + " " + x.line[i:], x.line[:i] + "0" + x.line[i:], x.line[:i] + x.line[i:i+1] + x.line[i:]} {
				if ev, err := console.Parse(other); other != x.line && err == api.OK && same(ev, x.ev) {
					t.Errorf("Parse(%q) = Parse(%q)", other, x.line)
				}
			}
		}
	}
}

// P32.2
func TestLines(t *testing.T) {
	one := api.Rev{Gen: 1, Mark: 0xab}
	rows := []api.Row{{Key: value.Int(1), Id: "a", Value: text("x")}, {Key: sample.Nest(2), Id: "b", Which: 3, Value: value.Null()}, {Key: sample.Nest(8), Id: "c", Value: value.Null()}, {Id: "d"}, {Key: value.Null(), Id: "\xff", Value: value.Null()}, {Key: value.Null(), Id: "e", Value: text(strings.Repeat("v", 2047))}}
	rowText := `[1,"a",0,"x"]` + "\n" + `[[[null]],"b",3,null]` + "\n-\n-\n-\n-\n"
	groups := []api.Group{{Key: value.Null(), Value: value.Int(7)}, {Key: text("x"), Value: sample.Nest(1)}, {}, {Key: sample.Nest(8), Value: value.Null()}}
	groupText := "[null,7]\n[\"x\",[null]]\n-\n-\n"
	all := api.Reply{Place: 5, Rev: "r", Body: "{} ", Seq: 42, Token: "t", Changes: []api.Change{{Seq: 3, Id: "a", Rev: one}, {Seq: 1 << 40, Id: "b", Rev: api.Rev{Gen: 4294967295, Mark: 1}, Deleted: true}, {Id: "", Rev: api.Rev{}}, {Seq: 4, Id: "c", Rev: api.Rev{Mark: 1}}}, Rows: rows, Groups: groups}
	none := all
	none.Token, none.Changes, none.Rows, none.Groups = "", nil, nil, nil
	changeText := "3 a 1-000000ab 0\n1099511627776 b 4294967295-00000001 1\n0   0\n4 c - 0\n"
	failed := all
	failed.Err = api.ErrForm
	for _, x := range knownLines() {
		want, empty := "ok\n", "ok\n"
		switch x.ev.Op.Kind {
		case api.OpPut, api.OpDelete:
			want, empty = "ok r 42\n", "ok r 42\n"
		case api.OpGet:
			want, empty = "ok r 42 {} \n", "ok r 42 {} \n"
		case api.OpDefine, api.OpDrop:
			want, empty = "ok 42\n", "ok 42\n"
		case api.OpQuery:
			want, empty = "ok 42 6\n"+rowText, "ok 42 0\n"
			if x.ev.Op.Ask.Level >= 0 {
				want = "ok 42 4\n" + groupText
			}
		case api.OpChanges:
			want, empty = "ok t 4\n"+changeText, "ok - 0\n"
		}
		if s := console.Lines(x.ev, api.Told{Reply: all}); s != want {
			t.Errorf("Lines of %s = %q, want %q", x.line, s, want)
		}
		if s := console.Lines(x.ev, api.Told{Reply: none}); s != empty {
			t.Errorf("Lines of %s = %q, want %q", x.line, s, empty)
		}
		if s := console.Lines(x.ev, api.Told{Err: api.ErrOff, Reply: failed}); s != "err 10\n" {
			t.Errorf("Lines of %s with an error = %q", x.line, s)
		}
		if x.ev.Kind == api.EvOp {
			want = "err 7 5\n"
		}
		if s := console.Lines(x.ev, api.Told{Reply: failed}); s != want {
			t.Errorf("Lines of %s with an error of the reply = %q", x.line, s)
		}
	}
}

// P32.3: the chapter's examples, and a longer story.
func TestRun(t *testing.T) {
	first, _ := doc.Next(api.Rev{}, []byte(`{"v":1}`))
	rev, _ := doc.RevText(first)
	second, _ := doc.Next(first, []byte("[1,2]"))
	next, _ := doc.RevText(second)
	third, _ := doc.Next(second, nil)
	last, _ := doc.RevText(third)
	tok, _ := feed.Token(1)
	end, _ := feed.Token(3)
	story := []struct{ line, out string }{
		{`put a - {"v":1}`, "ok " + rev + " 1\n"}, {"define v emit doc.v,id;", "ok 1\n"}, {"query v " + plainQuery, "ok 1 1\n[1,\"a\",0,\"a\"]\n"}, {"put b - [1,]", "err 7 3\n"}, {"drop w", "err 4 0\n"}, {"changes - 9", "ok " + tok + " 1\n1 a " + rev + " 0\n"}, {"crash -1 0 =", "ok\n"}, {"get a", "ok " + rev + ` 1 {"v":1}` + "\n"},
		{"refuse 0", "ok\n"}, {"put a " + rev + " [1, 2]", "err 9 0\n"}, {"put a " + rev + " [1, 2]", "ok " + next + " 2\n"}, {"light 2", "ok\n"}, {"delete a " + next, "err 10 0\n"}, {"light 1", "err 10\n"}, {"get a", "ok " + next + " 2 [1,2]\n"}, {"crash 0 1 =11", "ok\n"}, {"delete a " + next, "ok " + last + " 3\n"}, {"get a", "err 4 0\n"},
		{"query v " + strings.NewReplacer(`"kind":0`, `"kind":1`, "level\":-1", "level\":0").Replace(plainQuery), "ok 3 0\n"}, {"changes " + tok + " 1", "ok " + end + " 1\n3 a " + last + " 1\n"}, {"changes " + end + " 1", "ok " + end + " 0\n"}, {"define w emit x,1;", "err 340 0\n"}, {"query v {\"after\":false,\"ahead\":false,\"kind\":2,\"level\":1,\"most\":-1,\"turned\":true}", "ok 3 0\n"}, {"drop v", "ok 3\n"},
	}
	script, transcript := "", ""
	for _, x := range story {
		script, transcript = script+x.line+"\n", transcript+x.out
		out, at, err := console.Run(script)
		if out != transcript || at != 0 || err != api.OK {
			t.Fatalf("after %s the transcript is %q %d %d, want %q", x.line, out, at, err, transcript)
		}
		if again, _, _ := console.Run(script); again != out {
			t.Fatalf("the transcript differs the second time: %q", again)
		}
	}
	if out, at, err := console.Run(""); out != "" || at != 0 || err != api.OK {
		t.Errorf("Run of nothing = %q %d %d", out, at, err)
	}
}

// P32.3
func TestRunErrors(t *testing.T) {
	for _, x := range []struct {
		script string
		at     int
	}{
		{"get a\nso\n", 6}, {"get a", 0}, {"get a\nget b", 6}, {"\n", 0}, {"get a\n\n", 6}, {"get a\n\nget b\n", 6}, {"so\nget a\n", 0}, {"so\nso", 0}, {"get a\nput b - [1,]\nlight 01\nso\n", 19}, {"get a\r\nget b\n\n", 13}, {" ", 0}, {"get a\n ", 6},
	} {
		if out, at, err := console.Run(x.script); out != "" || at != x.at || err != api.ErrLine {
			t.Errorf("Run(%q) = %q %d %d, want %d", x.script, out, at, err, x.at)
		}
	}
	get := "get a\n"
	if out, at, err := console.Run(strings.Repeat(get, api.MaxLines)); out != strings.Repeat("err 4 0\n", api.MaxLines) || at != 0 || err != api.OK {
		t.Errorf("Run of MaxLines lines = %q %d %d", out, at, err)
	}
	if out, at, err := console.Run("so\n" + strings.Repeat(get, api.MaxLines)); out != "" || at != 0 || err != api.ErrLong {
		t.Errorf("Run of MaxLines + 1 lines = %q %d %d", out, at, err)
	}
	if _, at, err := console.Run(strings.Repeat(get, api.MaxLines) + "x"); at != 6*api.MaxLines || err != api.ErrLine {
		t.Errorf("Run of MaxLines lines and a rest = %d %d", at, err)
	}
	long := "get " + strings.Repeat("a", api.MaxScript-5) + "\n"
	if out, _, err := console.Run(long); out != "err 290 0\n" || err != api.OK {
		t.Errorf("Run of MaxScript bytes = %q %d", out, err)
	}
	if out, at, err := console.Run("so\n" + long); out != "" || at != 0 || err != api.ErrLong {
		t.Errorf("Run of more than MaxScript bytes = %q %d %d", out, at, err)
	}
}

// P32.4: random scripts, against their events in a world.
func TestRandomScripts(t *testing.T) {
	for seed := range uint64(20) {
		random, past := sample.New(200+seed), sample.NewPast()
		w, err := world.New()
		if err != api.OK {
			t.Fatal(err)
		}
		script, transcript := "", ""
		for range 50 {
			ev := op(random.Op(past))
			switch random.Below(10) {
			case 0:
				ev = api.Event{Kind: api.EvRefuse, N: random.Below(8)}
			case 1:
				ev = api.Event{Kind: api.EvCrash, Tear: random.Below(5) - 1, N: random.Below(70), Keep: []bool{true, random.Below(2) == 0, true}}
			}
			line, err := console.Print(ev)
			if err != api.OK {
				continue
			}
			if got, err := console.Parse(line); err != api.OK || !same(got, ev) {
				t.Fatalf("Parse(%q) = %v %d", line, got, err)
			}
			next, told := world.Do(w, ev)
			past.Note(ev.Op, told.Reply)
			w = next
			script, transcript = script+line+"\n", transcript+console.Lines(ev, told)
		}
		out, at, e := console.Run(script)
		if out != transcript || at != 0 || e != api.OK {
			t.Fatalf("Run(%q) = %q %d %d, want %q", script, out, at, e, transcript)
		}
		half := strings.Join(strings.SplitAfter(script, "\n")[:20], "")
		if part, _, _ := console.Run(half); !strings.HasPrefix(out, part) {
			t.Fatalf("the transcript of the first lines is %q", part)
		}
	}
}

// P32.2: the number of an error is printed in full.
func TestNumbersOfErrors(t *testing.T) {
	ev := op(api.Op{Kind: api.OpGet, Id: "a"})
	for _, n := range []api.Errno{2, 10, 302, 420, 9999, -1} {
		if s := console.Lines(ev, api.Told{Err: n}); s != "err "+strconv.Itoa(int(n))+"\n" {
			t.Errorf("Lines = %q", s)
		}
	}
}
