package model

import (
	"iter"
	"slices"

	"davenport/api"
	"davenport/collate"
	"davenport/monoid"
	"davenport/query"
	"davenport/rows"
	"davenport/value"
	"davenport/vcheck"
	"davenport/veval"
)

// row is a row of a view, and its item.
type row struct {
	api.Row
	item api.Item
}

// emitted yields the rows of all documents of a valid model under a program.
func emitted(m api.Model, p api.Prog) iter.Seq[row] {
	return func(yield func(row) bool) {
	documents:
		for _, k := range m.Docs {
			if k.Deleted {
				continue documents
			}
			l, err := veval.Map(p, k.Id, k.Body)
			if err != api.OK {
				continue documents
			}
			for i, e := range l {
				r := api.Row{Key: e.Key, Id: k.Id, Which: i, Value: e.Value}
				x, err := rows.Item(r)
				switch {
				case err == api.OK && !yield(row{r, x}):
					break documents
				}
			}
		}
	}
}

// rowsOf returns the rows of a view in the order of their items.
func rowsOf(m api.Model, s api.Sight) []row {
	p, _, err := vcheck.Compile(s.Source)
	if err != api.OK {
		return nil
	}
	var out []row
	for r := range emitted(m, p) {
		out = append(out, r)
	}
	slices.SortFunc(out, compareRows)
	return out
}

// first returns the first elements of a list, or of the list in reverse, as a query asks.
func first[T any](l []T, a api.Ask) []T {
	if a.Turned {
		slices.Reverse(l)
	}
	if a.Most >= 0 && a.Most < len(l) {
		return l[:a.Most]
	}
	return l
}

// selected returns the rows that a query asks for.
func selected(l []row, a api.Ask) []api.Row {
	var out []api.Row
	for _, r := range l {
		if query.Holds(a, r.Key) {
			out = append(out, r.Row)
		}
	}
	return first(out, a)
}

// group is a group of rows, and their reductions.
type group struct {
	key  api.Value
	reds []api.Red
}

// keyOf returns the Key of the group of a row.
func keyOf(r row, level int) api.Value {
	if level == 0 {
		return value.Null()
	}
	front, err := collate.Front(r.Key, level)
	if err != api.OK {
		return r.Key
	}
	return front
}

// grouped returns the groups that a query asks for.
func grouped(l []row, a api.Ask) ([]api.Group, api.Errno) {
	var groups []group
	for _, r := range l {
		if !query.Holds(a, r.Key) {
			continue
		}
		key := keyOf(r, a.Level)
		if n := len(groups); n == 0 || !value.Same(groups[n-1].key, key) {
			groups = append(groups, group{key: key})
		}
		g := &groups[len(groups)-1]
		g.reds = append(g.reds, monoid.One(r.item))
	}
	var out []api.Group
	for _, g := range first(groups, a) {
		red, err := monoid.Join(g.reds...)
		if err != api.OK {
			return nil, err
		}
		v, err := monoid.Tell(a.Kind, red)
		if err != api.OK {
			return nil, err
		}
		out = append(out, api.Group{Key: g.key, Value: v})
	}
	return out, api.OK
}
