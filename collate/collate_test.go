package collate_test

import (
	"math"
	"slices"
	"testing"

	"davenport/api"
	"davenport/collate"
	"davenport/parse"
	"davenport/print"
	"davenport/sample"
	"davenport/value"
)

func read(t *testing.T, text string) api.Value {
	t.Helper()
	v, at, err := parse.Parse([]byte(text))
	if err != api.OK {
		t.Fatalf("%s: %d %d", text, at, err)
	}
	return v
}

func show(v api.Value) string {
	s, _ := print.Print(v)
	return s
}

// ordered are values in the collation order.
var ordered = []string{
	"null", "false", "true", "-9223372036854775808", "-10", "-9", "-1", "0", "1", "9", "10", "9223372036854775807",
	`""`, `"\u0000"`, `"1"`, `"B"`, `"a"`, `"a\u0000"`, `"aa"`, `"ab"`, `"b"`, `"é"`, `"\uffff"`, `"\ud83d\ude00"`,
	"[]", "[null]", "[null,null]", "[null,5]", "[false]", "[0,0,0]", "[1]", "[1,2]", "[1,10]", "[2]", `["a"]`, `["a",1]`, "[[]]", "[[],1]", "[[1]]", "[[1],0]", "[[1,1]]", "[{}]",
	"{}", `{"":1}`, `{"a":null}`, `{"a":1}`, `{"a":1,"b":0}`, `{"a":1,"b":1}`, `{"a":1,"b":1,"c":0}`, `{"a":1,"c":0}`, `{"a":2}`, `{"a":2,"b":0}`, `{"a":[]}`, `{"aa":0}`, `{"b":null}`, `{"b":null,"c":null}`,
}

// P7.1
func TestCompare(t *testing.T) {
	for i, a := range ordered {
		for j, b := range ordered {
			want := 0
			if i < j {
				want = -1
			} else if i > j {
				want = 1
			}
			if n, err := collate.Compare(read(t, a), read(t, b)); n != want || err != api.OK {
				t.Errorf("Compare(%s, %s) = %d %d", a, b, n, err)
			}
		}
	}
	for i, v := range sample.Wrong() {
		for _, p := range [][2]api.Value{{v, value.Null()}, {value.Null(), v}, {v, v}} {
			if n, err := collate.Compare(p[0], p[1]); n != 0 || err != api.ErrValue {
				t.Errorf("Compare with wrong value %d = %d %d", i, n, err)
			}
		}
	}
}

// P7.2
func TestSort(t *testing.T) {
	var mixed []api.Value
	for i := range ordered {
		mixed = append(mixed, read(t, ordered[(i*7+3)%len(ordered)]), read(t, ordered[i*5%len(ordered)]))
	}
	before := slices.Clone(mixed)
	got, err := collate.Sort(mixed)
	if err != api.OK || len(got) != len(mixed) {
		t.Fatalf("Sort = %d values, %d", len(got), err)
	}
	counts := map[string]int{}
	for i, v := range mixed {
		if !value.Same(v, before[i]) {
			t.Fatal("Sort has changed its argument")
		}
		counts[show(v)]++
		counts[show(got[i])]--
		if i > 0 {
			if n, _ := collate.Compare(got[i-1], got[i]); n > 0 {
				t.Errorf("%s is before %s", show(got[i-1]), show(got[i]))
			}
		}
	}
	for s, n := range counts {
		if n != 0 {
			t.Errorf("%s is there %d times too few", s, n)
		}
	}
	if got, err := collate.Sort(nil); len(got) != 0 || err != api.OK {
		t.Errorf("Sort(nil) = %v %d", got, err)
	}
	for i, v := range sample.Wrong() {
		if got, err := collate.Sort([]api.Value{value.Null(), v}); len(got) != 0 || err != api.ErrValue {
			t.Errorf("Sort with wrong value %d = %v %d", i, got, err)
		}
	}
}

// P7.2
func TestPlace(t *testing.T) {
	var l []api.Value
	for _, s := range []string{"1", "3", "3", "3", "4", `"a"`, "[1]", "[1]"} {
		l = append(l, read(t, s))
	}
	for _, x := range []struct {
		text         string
		before, upTo int
	}{
		{"null", 0, 0}, {"1", 0, 1}, {"2", 1, 1}, {"3", 1, 4}, {"4", 4, 5}, {"5", 5, 5}, {`"a"`, 5, 6}, {"[]", 6, 6}, {"[1]", 6, 8}, {"[1,1]", 8, 8}, {"{}", 8, 8},
	} {
		if a, b, err := collate.Place(l, read(t, x.text)); a != x.before || b != x.upTo || err != api.OK {
			t.Errorf("Place(%s) = %d %d %d", x.text, a, b, err)
		}
	}
	if a, b, err := collate.Place(nil, value.Null()); a != 0 || b != 0 || err != api.OK {
		t.Errorf("Place in nothing = %d %d %d", a, b, err)
	}
	turned := []api.Value{value.Int(1), value.Int(3), value.Int(2)}
	if a, b, err := collate.Place(turned, value.Int(9)); a != 0 || b != 0 || err != api.ErrArg {
		t.Errorf("Place in a list that is not in order = %d %d %d", a, b, err)
	}
	for i, v := range sample.Wrong() {
		for _, x := range []struct {
			l []api.Value
			v api.Value
		}{{turned, v}, {append(slices.Clone(turned), v), value.Null()}, {[]api.Value{v, value.Null()}, value.Null()}} {
			if a, b, err := collate.Place(x.l, x.v); a != 0 || b != 0 || err != api.ErrValue {
				t.Errorf("Place with wrong value %d = %d %d %d", i, a, b, err)
			}
		}
	}
}

// P7.3
func TestFront(t *testing.T) {
	for _, x := range []struct {
		text string
		n    int
		want string
	}{
		{"[1,2,3]", 0, "[]"}, {"[1,2,3]", 1, "[1]"}, {"[1,2,3]", 2, "[1,2]"}, {"[1,2,3]", 3, "[1,2,3]"}, {"[1,2,3]", 4, "[1,2,3]"}, {"[1,2,3]", math.MaxInt, "[1,2,3]"},
		{"[]", 0, "[]"}, {"[[1,2],3]", 1, "[[1,2]]"}, {`"ab"`, 0, `"ab"`}, {`"ab"`, 1, `"ab"`}, {`{"a":1,"b":2}`, 1, `{"a":1,"b":2}`}, {"null", 0, "null"}, {"7", 0, "7"},
	} {
		v := read(t, x.text)
		if got, err := collate.Front(v, x.n); show(got) != x.want || err != api.OK {
			t.Errorf("Front(%s, %d) = %s %d", x.text, x.n, show(got), err)
		}
		if show(v) != x.text {
			t.Errorf("Front has changed %s", x.text)
		}
	}
	for _, n := range []int{-1, math.MinInt} {
		if got, err := collate.Front(value.Int(1), n); got.Kind != 0 || err != api.ErrArg {
			t.Errorf("Front(1, %d) = %v %d", n, got, err)
		}
	}
	for i, v := range sample.Wrong() {
		for _, n := range []int{-1, 0, 1} {
			if got, err := collate.Front(v, n); got.Kind != 0 || len(got.Kids) != 0 || err != api.ErrValue {
				t.Errorf("Front of wrong value %d = %v %d", i, got, err)
			}
		}
	}
}

// P7.4
func TestConsequences(t *testing.T) {
	random := sample.New(7)
	l, err := collate.Sort(random.Values(120))
	if err != api.OK {
		t.Fatal(err)
	}
	for i, a := range l {
		for j, b := range l {
			n, _ := collate.Compare(a, b)
			m, _ := collate.Compare(b, a)
			if n != -m || (n == 0) != value.Same(a, b) || i < j && n > 0 {
				t.Fatalf("Compare(%s, %s) = %d, the other way %d", show(a), show(b), n, m)
			}
			for size := range 3 {
				x, _ := collate.Front(a, size)
				y, _ := collate.Front(b, size)
				if k, _ := collate.Compare(x, y); n < 0 && k > 0 {
					t.Fatalf("the fronts by %d of %s and %s are not in order", size, show(a), show(b))
				}
			}
		}
		for n := range 4 {
			x, _ := collate.Front(a, n)
			if k, _ := collate.Compare(x, a); k > 0 {
				t.Fatalf("the front by %d of %s is after it", n, show(a))
			}
			for m := range 4 {
				y, _ := collate.Front(x, m)
				z, _ := collate.Front(a, min(m, n))
				if !value.Same(y, z) {
					t.Fatalf("the fronts by %d and %d of %s", n, m, show(a))
				}
			}
		}
	}
}
