package console

import (
	"iter"
	"strings"

	"davenport/api"
	"davenport/numeral"
	"davenport/parse"
	"davenport/print"
	"davenport/query"
	"davenport/value"
)

// maxKeep is how many elements of Keep a line can show.
const maxKeep = 200

// none stands for an empty Rev or Token.
const none = "-"

// invalid is the panic with which the reading of a line ends that is no event's.
type invalid struct{}

// remaining are the words of a line that have not been read.
type remaining struct {
	words []string
}

// reader reads the words of a line.
type reader struct {
	remaining
}

// rest reads the next word, which may have spaces if it is the last one.
func (r *reader) rest() string {
	if len(r.words) == 0 {
		panic(invalid{})
	}
	word := r.words[0]
	r.words = r.words[1:]
	return word
}

// word reads a word that is not empty.
func (r *reader) word() string {
	word := r.rest()
	if word == "" || strings.Contains(word, " ") {
		panic(invalid{})
	}
	return word
}

// optional reads a word that stands for nothing if it is a hyphen.
func (r *reader) optional() string {
	word := r.word()
	if word == none {
		return ""
	}
	return word
}

func (r *reader) number() int {
	word := r.word()
	n, next, err := numeral.Read([]byte(word), 0)
	if err != api.OK || next != len(word) {
		panic(invalid{})
	}
	return int(n)
}

func (r *reader) put(ev *api.Event) {
	ev.Op.Id, ev.Op.Rev, ev.Op.Text = r.word(), r.optional(), r.rest()
}

func (r *reader) delete(ev *api.Event) {
	ev.Op.Id, ev.Op.Rev = r.word(), r.optional()
}

func (r *reader) id(ev *api.Event) {
	ev.Op.Id = r.word()
}

func (r *reader) define(ev *api.Event) {
	ev.Op.Id, ev.Op.Text = r.word(), r.rest()
}

func (r *reader) changes(ev *api.Event) {
	ev.Op.Token, ev.Op.Most = r.optional(), r.number()
}

func (r *reader) fuse(ev *api.Event) {
	ev.N = r.number()
}

func (r *reader) crash(ev *api.Event) {
	ev.Tear, ev.N = r.number(), r.number()
	bits, ok := strings.CutPrefix(r.word(), "=")
	if !ok || len(bits) > maxKeep {
		panic(invalid{})
	}
	for _, bit := range bits {
		if bit != '0' && bit != '1' {
			panic(invalid{})
		}
		ev.Keep = append(ev.Keep, bit == '1')
	}
}

// query reads a query text; of what is missing or wrong in it, nothing is told.
func (r *reader) query(ev *api.Event) {
	ev.Op.Id = r.word()
	v, _, err := parse.Parse([]byte(r.rest()))
	if err != api.OK {
		panic(invalid{})
	}
	number := func(key string) int {
		n, _ := value.Get(v, key)
		return int(n.N)
	}
	a := &ev.Op.Ask
	a.After, a.Ahead, a.Turned = number("after") == 1, number("ahead") == 1, number("turned") == 1
	a.Kind, a.Level, a.Most = number("kind"), number("level"), number("most")
	a.From, a.HasFrom = value.Get(v, "from")
	a.To, a.HasTo = value.Get(v, "to")
	if query.Check(*a) != api.OK {
		panic(invalid{})
	}
}

// askText returns the query text of a query, if it has one.
func askText(a api.Ask) (string, bool) {
	pairs := []api.Pair{
		{Key: "after", Value: value.Bool(a.After)},
		{Key: "ahead", Value: value.Bool(a.Ahead)},
		{Key: "turned", Value: value.Bool(a.Turned)},
		{Key: "kind", Value: value.Int(int64(a.Kind))},
		{Key: "level", Value: value.Int(int64(a.Level))},
		{Key: "most", Value: value.Int(int64(a.Most))},
	}
	if a.HasFrom {
		pairs = append(pairs, api.Pair{Key: "from", Value: a.From})
	}
	if a.HasTo {
		pairs = append(pairs, api.Pair{Key: "to", Value: a.To})
	}
	v, err := value.Object(pairs...)
	if err != api.OK {
		return "", false
	}
	text, err := print.Print(v)
	return text, err == api.OK
}

// optional writes a text that may be empty.
func optional(text string) string {
	if text == "" {
		return none
	}
	return text
}

func number(n int) string {
	return numeral.Print(int64(n))
}

func bits(keep []bool) string {
	out := []byte{'='}
	for _, k := range keep {
		if k {
			out = append(out, '1')
		} else {
			out = append(out, '0')
		}
	}
	return string(out)
}

// form is a kind of line: its first word, the number of all its words, the kinds of its event, and how the others are read and written.
type form struct {
	word     string
	count    int
	kind, op int
	read     func(*reader, *api.Event)
	write    func(ev api.Event) string
}

func forms() [10]form {
	id := func(ev api.Event) string { return ev.Op.Id }
	n := func(ev api.Event) string { return number(ev.N) }
	return [10]form{
		{"put", 4, api.EvOp, api.OpPut, (*reader).put, func(ev api.Event) string { return joined(ev.Op.Id, optional(ev.Op.Rev), ev.Op.Text) }},
		{"delete", 3, api.EvOp, api.OpDelete, (*reader).delete, func(ev api.Event) string { return joined(ev.Op.Id, optional(ev.Op.Rev)) }},
		{"get", 2, api.EvOp, api.OpGet, (*reader).id, id},
		{"define", 3, api.EvOp, api.OpDefine, (*reader).define, func(ev api.Event) string { return joined(ev.Op.Id, ev.Op.Text) }},
		{"drop", 2, api.EvOp, api.OpDrop, (*reader).id, id},
		{"query", 3, api.EvOp, api.OpQuery, (*reader).query, func(ev api.Event) string {
			// Without a query text the line is cut short, and nothing is read from it.
			text, _ := askText(ev.Op.Ask)
			return joined(ev.Op.Id, text)
		}},
		{"changes", 3, api.EvOp, api.OpChanges, (*reader).changes, func(ev api.Event) string { return joined(optional(ev.Op.Token), number(ev.Op.Most)) }},
		{"light", 2, api.EvLight, 0, (*reader).fuse, n},
		{"refuse", 2, api.EvRefuse, 0, (*reader).fuse, n},
		{"crash", 4, api.EvCrash, 0, (*reader).crash, func(ev api.Event) string { return joined(number(ev.Tear), number(ev.N), bits(ev.Keep)) }},
	}
}

// find returns the form that fits, if there is one.
func find(fits func(f form) bool) (form, bool) {
	var found form
	ok := false
search:
	for _, f := range forms() {
		switch {
		case fits(f):
			found, ok = f, true
			break search
		}
	}
	return found, ok
}

// words yields the words of a line, at most that many, the last of which is all that is left.
func words(line string, most int) iter.Seq[string] {
	return func(yield func(string) bool) {
		for more := true; more; most-- {
			word := line
			if more = false; most > 1 {
				word, line, more = strings.Cut(line, " ")
			}
			if !yield(word) {
				return
			}
		}
	}
}

// read returns the event that a line tells of; the line need not be just its own.
func read(line string) (ev api.Event, ok bool) {
	defer func() {
		if p := recover(); p != nil {
			if _, is := p.(invalid); !is {
				panic(p)
			}
			ev, ok = api.Event{}, false
		}
	}()
	first, _, _ := strings.Cut(line, " ")
	f, known := find(func(f form) bool { return f.word == first })
	if !known || strings.Contains(line, "\n") {
		panic(invalid{})
	}
	r := &reader{}
	for word := range words(line, f.count) {
		r.words = append(r.words, word)
	}
	r.words = r.words[1:]
	ev = api.Event{Kind: f.kind, Op: api.Op{Kind: f.op}}
	f.read(r, &ev)
	return ev, true
}

// written returns what would be the line of an event of one of the kinds.
func written(ev api.Event) (string, bool) {
	f, ok := find(func(f form) bool { return f.kind == ev.Kind && f.op == ev.Op.Kind })
	if !ok {
		return "", false
	}
	return joined(f.word, f.write(ev)), true
}
