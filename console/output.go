package console

import (
	"strconv"
	"strings"

	"davenport/api"
	"davenport/doc"
	"davenport/print"
	"davenport/value"
)

// lines joins lines, each followed by a line feed.
func lines(l ...string) string {
	return strings.Join(l, "\n") + "\n"
}

// listText returns the canonical text of a list, or a hyphen if it has none.
func listText(kids ...api.Value) string {
	v, err := value.List(kids...)
	if err != api.OK {
		return none
	}
	text, err := print.Print(v)
	if err != api.OK {
		return none
	}
	return text
}

func revText(r api.Rev) string {
	text, err := doc.RevText(r)
	if err != api.OK {
		return none
	}
	return text
}

func seq(n uint64) string {
	return strconv.FormatUint(n, 10)
}

func flag(b bool) string {
	if b {
		return "1"
	}
	return "0"
}

func rowLine(r api.Row) string {
	return listText(r.Key, api.Value{Kind: api.VText, S: r.Id}, value.Int(int64(r.Which)), r.Value)
}

func groupLine(g api.Group) string {
	return listText(g.Key, g.Value)
}

func changeLine(c api.Change) string {
	return joined(seq(c.Seq), c.Id, revText(c.Rev), flag(c.Deleted))
}

// each returns the lines of some things after a first line.
func each[T any](first string, l []T, line func(T) string) []string {
	out := []string{first}
	for _, x := range l {
		out = append(out, line(x))
	}
	return out
}

// success returns the lines of an operation that has succeeded.
func success(op api.Op, r api.Reply) []string {
	switch op.Kind {
	case api.OpPut, api.OpDelete:
		return []string{joined("ok", r.Rev, seq(r.Seq))}
	case api.OpGet:
		return []string{joined("ok", r.Rev, seq(r.Seq), r.Body)}
	case api.OpDefine, api.OpDrop:
		return []string{joined("ok", seq(r.Seq))}
	case api.OpChanges:
		return each(joined("ok", optional(r.Token), number(len(r.Changes))), r.Changes, changeLine)
	}
	if op.Ask.Level == -1 {
		return each(joined("ok", seq(r.Seq), number(len(r.Rows))), r.Rows, rowLine)
	}
	return each(joined("ok", seq(r.Seq), number(len(r.Groups))), r.Groups, groupLine)
}

// output returns the output of an event that has a line.
func output(ev api.Event, t api.Told) string {
	switch {
	case t.Err != api.OK:
		return lines(joined("err", number(int(t.Err))))
	case ev.Kind == api.EvOp && t.Reply.Err != api.OK:
		return lines(joined("err", number(int(t.Reply.Err)), number(t.Reply.Place)))
	case ev.Kind == api.EvOp:
		return lines(success(ev.Op, t.Reply)...)
	}
	return lines("ok")
}
