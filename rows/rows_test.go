package rows_test

import (
	"bytes"
	"encoding/hex"
	"math"
	"slices"
	"strings"
	"testing"

	"davenport/api"
	"davenport/collate"
	"davenport/keycode"
	"davenport/merge"
	"davenport/print"
	"davenport/rows"
	"davenport/sample"
	"davenport/tree"
	"davenport/value"
)

func text(s string) api.Value { return api.Value{Kind: api.VText, S: s} }

func unhex(s string) []byte {
	b, err := hex.DecodeString(strings.ReplaceAll(s, " ", ""))
	if err != nil {
		panic(err)
	}
	return b
}

func sameItem(a, b api.Item) bool {
	return bytes.Equal(a.Key, b.Key) && bytes.Equal(a.Value, b.Value) && a.Int == b.Int && a.N == b.N
}

func sameRow(a, b api.Row) bool {
	return value.Same(a.Key, b.Key) && a.Id == b.Id && a.Which == b.Which && value.Same(a.Value, b.Value)
}

func blank(r api.Row) bool {
	return r.Key.Kind == 0 && r.Id == "" && r.Which == 0 && r.Value.Kind == 0
}

func longKey(n int) api.Value { return text(strings.Repeat("k", n)) }

func rightRows() []api.Row {
	out := []api.Row{
		{Key: value.Int(1), Id: "a", Value: text("x")}, {Key: value.Null(), Id: "a", Which: 3, Value: value.Null()}, {Key: text("\x00a"), Id: "a-1", Which: 1, Value: value.Int(-5)}, {Key: sample.Nest(3), Id: "z", Which: 2, Value: value.Int(math.MinInt64)},
		{Key: longKey(api.MaxCode - 3), Id: strings.Repeat("z", api.MaxId), Which: 3, Value: text(strings.Repeat("v", api.MaxVal-2))}, {Key: value.Bool(true), Id: "0", Value: value.Bool(false)},
	}
	random := sample.New(26)
	for len(out) < 200 {
		r := api.Row{Key: random.Value(2), Id: sample.Name(random.Below(20)), Which: random.Below(4), Value: random.Value(2)}
		if rows.Check(r) == api.OK {
			out = append(out, r)
		}
	}
	return out
}

func wrongRows() []api.Row {
	out := []api.Row{
		{}, {Key: value.Null(), Id: "A", Value: value.Null()}, {Key: value.Null(), Value: value.Null()}, {Key: value.Null(), Id: strings.Repeat("a", 25), Value: value.Null()},
		{Key: value.Null(), Id: "a", Which: 4, Value: value.Null()}, {Key: value.Null(), Id: "a", Which: -1, Value: value.Null()}, {Key: value.Null(), Id: "a", Which: 256, Value: value.Null()}, {Key: value.Null(), Id: "a", Which: math.MaxInt, Value: value.Null()}, {Key: value.Null(), Id: "a", Which: math.MinInt, Value: value.Null()},
		{Key: longKey(api.MaxCode - 2), Id: "a", Value: value.Null()}, {Key: text(strings.Repeat("\x00", 44)), Id: "a", Value: value.Null()}, {Key: value.Null(), Id: "a", Value: text(strings.Repeat("v", api.MaxVal-1))}, {Key: value.Null(), Id: "a", Value: text(strings.Repeat("\n", 50))}, {Key: value.Null(), Id: "a", Value: text(strings.Repeat("v", 5000))},
	}
	for _, v := range sample.Wrong() {
		out = append(out, api.Row{Key: v, Id: "a", Value: value.Null()}, api.Row{Key: value.Null(), Id: "a", Value: v})
	}
	return out
}

// P26.1
func TestCheckItemAndTrace(t *testing.T) {
	x, err := rows.Item(api.Row{Key: value.Int(1), Id: "a", Value: text("x")})
	if !sameItem(x, api.Item{Key: unhex("04 8000000000000001 05610000 00"), Value: []byte(`"x"`)}) || err != api.OK {
		t.Errorf("Item = %x %q %d", x.Key, x.Value, err)
	}
	for i, r := range rightRows() {
		key, _ := keycode.Encode(r.Key)
		id, _ := keycode.Encode(text(r.Id))
		val, _ := print.Print(r.Value)
		back := append(bytes.Clone(id), byte(r.Which))
		want := api.Item{Key: append(bytes.Clone(key), back...), Value: []byte(val)}
		if r.Value.Kind == api.VInt {
			want.Int, want.N = true, r.Value.N
		}
		if err := rows.Check(r); err != api.OK {
			t.Errorf("Check of row %d = %d", i, err)
		}
		if x, err := rows.Item(r); !sameItem(x, want) || err != api.OK {
			t.Errorf("Item of row %d = %v %d", i, x, err)
		}
		if x, err := rows.Trace(r); !sameItem(x, api.Item{Key: back, Value: key}) || err != api.OK {
			t.Errorf("Trace of row %d = %v %d", i, x, err)
		}
	}
	for i, r := range wrongRows() {
		if err := rows.Check(r); err != api.ErrRow {
			t.Errorf("Check of wrong row %d = %d", i, err)
		}
		if x, err := rows.Item(r); !sameItem(x, api.Item{}) || err != api.ErrRow {
			t.Errorf("Item of wrong row %d = %v %d", i, x, err)
		}
		if x, err := rows.Trace(r); !sameItem(x, api.Item{}) || err != api.ErrRow {
			t.Errorf("Trace of wrong row %d = %v %d", i, x, err)
		}
	}
}

// P26.2, P26.5
func TestSaysAndTraced(t *testing.T) {
	for i, r := range rightRows() {
		x, _ := rows.Item(r)
		y, _ := rows.Trace(r)
		if got, err := rows.Says(x); !sameRow(got, r) || err != api.OK {
			t.Errorf("Says of row %d = %v %d", i, got, err)
		}
		if key, err := rows.Traced(y); !bytes.Equal(key, x.Key) || err != api.OK {
			t.Errorf("Traced of row %d = %x %d", i, key, err)
		}
		if len(x.Key) > api.MaxKey || len(y.Key) > api.MaxKey || len(y.Value) > api.MaxVal {
			t.Errorf("row %d has keys of %d and %d bytes", i, len(x.Key), len(y.Key))
		}
	}
}

// P26.2: items and traces, each changed in one part.
func TestWrongItemsAndTraces(t *testing.T) {
	one := unhex("04 8000000000000001")
	id := unhex("05610000")
	key := func(parts ...[]byte) []byte { return bytes.Join(parts, nil) }
	for i, x := range []api.Item{
		{}, {Key: []byte{1}}, {Key: one, Value: []byte("1")}, {Key: key(one, id), Value: []byte("null")}, {Key: key(one, id, []byte{0, 0}), Value: []byte("null")}, {Key: key(one, id, []byte{4}), Value: []byte("null")}, {Key: key(one, id, []byte{255}), Value: []byte("null")}, {Key: key(id, []byte{0}), Value: []byte("null")},
		{Key: key(one, one, []byte{0}), Value: []byte("null")}, {Key: key(one, unhex("05410000"), []byte{0}), Value: []byte("null")}, {Key: key(one, unhex("050000"), []byte{0}), Value: []byte("null")}, {Key: key(one[:5], id, []byte{0}), Value: []byte("null")}, {Key: key([]byte{8}, id, []byte{0}), Value: []byte("null")}, {Key: key(one, unhex("0561"), []byte{0}), Value: []byte("null")},
		{Key: key(one, id, []byte{0})}, {Key: key(one, id, []byte{0}), Value: []byte(" null")}, {Key: key(one, id, []byte{0}), Value: []byte("[1, 2]")}, {Key: key(one, id, []byte{0}), Value: []byte(`{"b":1,"a":1}`)}, {Key: key(one, id, []byte{0}), Value: []byte("x")}, {Key: key(one, id, []byte{0}), Value: []byte(`"` + strings.Repeat("v", 99) + `"`)},
		{Key: key(one, id, []byte{0}), Value: []byte("5")}, {Key: key(one, id, []byte{0}), Value: []byte("5"), Int: true, N: 6}, {Key: key(one, id, []byte{0}), Value: []byte("5"), N: 5}, {Key: key(one, id, []byte{0}), Value: []byte("null"), Int: true}, {Key: key(one, id, []byte{0}), Value: []byte("null"), N: 1}, {Key: key(one, id, []byte{0}), Value: []byte("-0"), Int: true}, {Key: key(one, id, []byte{0}), Value: []byte("05"), Int: true, N: 5},
		{Key: key([]byte{5}, bytes.Repeat([]byte("k"), api.MaxCode-2), []byte{0, 0}, id, []byte{0}), Value: []byte("null")},
	} {
		if r, err := rows.Says(x); err != api.ErrRow || !blank(r) {
			t.Errorf("Says of wrong item %d = %v %d", i, r, err)
		}
	}
	for i, x := range []api.Item{
		{}, {Key: id, Value: one}, {Key: key(id, []byte{4}), Value: one}, {Key: key(id, []byte{0, 0}), Value: one}, {Key: key(unhex("05410000"), []byte{0}), Value: one}, {Key: key(one, []byte{0}), Value: one}, {Key: []byte{0}, Value: one}, {Key: key(unhex("0561"), []byte{0}), Value: one},
		{Key: key(id, []byte{0})}, {Key: key(id, []byte{0}), Value: one[:8]}, {Key: key(id, []byte{0}), Value: key(one, []byte{0})}, {Key: key(id, []byte{0}), Value: []byte("null")}, {Key: key(id, []byte{0}), Value: one, Int: true}, {Key: key(id, []byte{0}), Value: one, N: 1}, {Key: key(one, id, []byte{0}), Value: []byte("null")}, {Key: key(id, []byte{0}), Value: key([]byte{5}, bytes.Repeat([]byte("k"), api.MaxCode-2), []byte{0, 0})},
	} {
		if b, err := rows.Traced(x); err != api.ErrRow || len(b) != 0 {
			t.Errorf("Traced of wrong trace %d = %x %d", i, b, err)
		}
		if items, back, err := rows.Change("a", []api.Item{x}, nil); err != api.ErrRow || len(items)+len(back) != 0 {
			t.Errorf("Change with wrong trace %d = %v %d", i, items, err)
		}
	}
}

// P26.3
func TestMine(t *testing.T) {
	ids := []string{"a", "a-", "a0", "aa", "ab", "b", "-", "0", "z", strings.Repeat("a", 24)}
	for _, id := range ids {
		b, err := rows.Mine(id)
		if err != api.OK {
			t.Errorf("Mine(%s) = %d", id, err)
		}
		for _, other := range ids {
			for which := range 4 {
				x, _ := rows.Trace(api.Row{Key: value.Int(5), Id: other, Which: which, Value: value.Null()})
				if tree.Within(b, x.Key) != (id == other) {
					t.Errorf("Mine(%s) and the trace %x", id, x.Key)
				}
			}
		}
	}
	for _, id := range []string{"", "A", strings.Repeat("a", 25)} {
		if b, err := rows.Mine(id); err != api.ErrId || len(b.From)+len(b.To) != 0 || b.Ends {
			t.Errorf("Mine(%q) = %v %d", id, b, err)
		}
	}
}

func emits(l ...int64) []api.Emit {
	var out []api.Emit
	for _, n := range l {
		out = append(out, api.Emit{Key: value.Int(n), Value: value.Int(10 * n)})
	}
	return out
}

// rowsOf are the rows of a document, and their items and traces.
func rowsOf(id string, l []api.Emit) ([]api.Item, []api.Item) {
	var items, traces []api.Item
	for i, e := range l {
		x, _ := rows.Item(api.Row{Key: e.Key, Id: id, Which: i, Value: e.Value})
		y, _ := rows.Trace(api.Row{Key: e.Key, Id: id, Which: i, Value: e.Value})
		items, traces = append(items, x), append(traces, y)
	}
	slices.SortFunc(items, func(a, b api.Item) int { return bytes.Compare(a.Key, b.Key) })
	return items, traces
}

// P26.4
func TestChange(t *testing.T) {
	for _, before := range [][]api.Emit{nil, emits(1), emits(3, 1), emits(1, 1, 1, 1), emits(4, 3, 2, 1), emits(7, -7)} {
		for _, after := range [][]api.Emit{nil, emits(1), emits(2), emits(1, 3), emits(3, 1), emits(1, 1, 1, 1), emits(-1, -2, -3, -4)} {
			oldItems, oldTraces := rowsOf("a", before)
			newItems, newTraces := rowsOf("a", after)
			items, back, err := rows.Change("a", oldTraces, after)
			if err != api.OK || merge.Check(items) != api.OK || merge.Check(back) != api.OK {
				t.Fatalf("Change = %v %v %d", items, back, err)
			}
			got, _ := merge.Done(oldItems, items)
			gotBack, _ := merge.Done(oldTraces, back)
			if !slices.EqualFunc(got, newItems, sameItem) || !slices.EqualFunc(gotBack, newTraces, sameItem) {
				t.Errorf("Change leads to %v and %v, want %v and %v", got, gotBack, newItems, newTraces)
			}
			// Each old or new key is edited once, and no other.
			for _, x := range []struct {
				l        []api.Edit
				old, new []api.Item
			}{{items, oldItems, newItems}, {back, oldTraces, newTraces}} {
				keys := map[string]bool{}
				for _, y := range x.old {
					keys[string(y.Key)] = false
				}
				for _, y := range x.new {
					keys[string(y.Key)] = true
				}
				if len(keys) != len(x.l) {
					t.Errorf("Change has %d edits, want %d", len(x.l), len(keys))
				}
				for _, e := range x.l {
					if put, ok := keys[string(e.Key)]; !ok || put != e.Put {
						t.Errorf("Change has the edit %v", e)
					}
				}
			}
		}
	}
}

// P26.4
func TestChangeErrors(t *testing.T) {
	_, mine := rowsOf("a", emits(1))
	_, other := rowsOf("b", emits(1))
	long := []api.Emit{{Key: longKey(api.MaxCode), Value: value.Null()}}
	for _, x := range []struct {
		id     string
		traces []api.Item
		emits  []api.Emit
		err    api.Errno
	}{
		{"A", other, long, api.ErrId}, {"", nil, nil, api.ErrId}, {"a", other, nil, api.ErrRow}, {"a", append(slices.Clone(mine), other...), nil, api.ErrRow}, {"a", []api.Item{{}}, nil, api.ErrRow}, {"a", mine, long, api.ErrRow}, {"a", nil, []api.Emit{{}}, api.ErrRow}, {"a", nil, emits(1, 2, 3, 4, 5), api.ErrRow}, {"a", nil, append(emits(1), api.Emit{Key: value.Null(), Value: text(strings.Repeat("v", 200))}), api.ErrRow}, {"a", nil, append(emits(1), api.Emit{Value: value.Null()}), api.ErrRow},
	} {
		if items, back, err := rows.Change(x.id, x.traces, x.emits); err != x.err || len(items)+len(back) != 0 {
			t.Errorf("Change(%s) = %v %v %d, want %d", x.id, items, back, err, x.err)
		}
	}
	if items, back, err := rows.Change("a", append(slices.Clone(mine), mine...), nil); err != api.OK || len(items) != 1 || len(back) != 1 {
		t.Errorf("Change with a trace twice = %v %v %d", items, back, err)
	}
}

// P26.5
func TestOrder(t *testing.T) {
	l := rightRows()
	for _, a := range l {
		x, _ := rows.Item(a)
		for _, b := range l {
			y, _ := rows.Item(b)
			want, _ := collate.Compare(a.Key, b.Key)
			if want == 0 {
				want = strings.Compare(a.Id, b.Id)
			}
			if want == 0 {
				want = a.Which - b.Which
			}
			if n := bytes.Compare(x.Key, y.Key); n != max(-1, min(1, want)) {
				t.Fatalf("the items of %v and %v compare as %d, want %d", a, b, n, want)
			}
		}
	}
}
