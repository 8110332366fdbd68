package monoid_test

import (
	"math"
	"math/big"
	"math/rand"
	"testing"

	"davenport/api"
	"davenport/monoid"
	"davenport/value"
)

// row is a row, and whether it has a number.
type row struct {
	is bool
	n  int64
}

func item(r row) api.Item {
	return api.Item{Key: []byte("k"), Value: []byte("v"), Int: r.is, N: r.n}
}

// reduced is the reduction of rows, computed with numbers of any length.
func reduced(rows []row) api.Red {
	out := api.Red{Count: len(rows)}
	total := new(big.Int)
	for _, r := range rows {
		if !r.is {
			continue
		}
		total.Add(total, big.NewInt(r.n))
		if out.Ints == 0 || r.n < out.Least {
			out.Least = r.n
		}
		if out.Ints == 0 || r.n > out.Most {
			out.Most = r.n
		}
		out.Ints++
	}
	out.High, out.Low = split(total)
	return out
}

func split(n *big.Int) (int64, uint64) {
	base := new(big.Int).Lsh(big.NewInt(1), 64)
	high, low := new(big.Int).DivMod(n, base, new(big.Int))
	return high.Int64(), low.Uint64()
}

func whole(r api.Red) *big.Int {
	n := new(big.Int).Lsh(big.NewInt(r.High), 64)
	return n.Add(n, new(big.Int).SetUint64(r.Low))
}

var numbers = []int64{0, 1, -1, 5, -7, math.MaxInt64, math.MinInt64, math.MaxInt64 - 1, math.MinInt64 + 1, 1 << 40, -1 << 40}

func someRows(random *rand.Rand) []row {
	rows := make([]row, random.Intn(6))
	for i := range rows {
		if random.Intn(4) > 0 {
			rows[i] = row{true, numbers[random.Intn(len(numbers))]}
		}
	}
	return rows
}

// P13.1: reductions of rows are valid, and what differs from them in one field is valid just if the terms say so.
func TestCheck(t *testing.T) {
	valid := func(r api.Red) bool {
		if r.Ints < 0 || r.Ints > r.Count || r.Count > api.MaxCount {
			return false
		}
		low, high := big.NewInt(r.Least), big.NewInt(r.Most)
		s := whole(r)
		switch r.Ints {
		case 0:
			return r.High == 0 && r.Low == 0 && r.Least == 0 && r.Most == 0
		case 1:
			return r.Least == r.Most && s.Cmp(low) == 0
		}
		ends := new(big.Int).Add(low, high)
		more := big.NewInt(int64(r.Ints - 2))
		least := new(big.Int).Add(ends, new(big.Int).Mul(more, low))
		most := new(big.Int).Add(ends, new(big.Int).Mul(more, high))
		return r.Least <= r.Most && s.Cmp(least) >= 0 && s.Cmp(most) <= 0
	}
	check := func(r api.Red) {
		t.Helper()
		if err := monoid.Check(r); (err == api.OK) != valid(r) || err != api.OK && err != api.ErrRed {
			t.Fatalf("Check(%+v) = %d", r, err)
		}
	}
	random := rand.New(rand.NewSource(13))
	for range 2000 {
		r := reduced(someRows(random))
		if err := monoid.Check(r); err != api.OK {
			t.Fatalf("Check(%+v) = %d", r, err)
		}
		for _, d := range []int64{1, -1, 2, math.MinInt64} {
			for field := range 6 {
				s := r
				switch field {
				case 0:
					s.Count += int(d)
				case 1:
					s.Ints += int(d)
				case 2:
					s.High += d
				case 3:
					s.Low += uint64(d)
				case 4:
					s.Least += d
				case 5:
					s.Most += d
				}
				check(s)
			}
		}
	}
	for _, r := range []api.Red{
		{Count: api.MaxCount}, {Count: api.MaxCount + 1}, {Count: -1}, {Ints: 1}, {Count: 1, Ints: -1}, {Count: math.MinInt}, {Count: math.MaxInt, Ints: math.MaxInt},
		{Count: 1, Ints: 1, Low: 5, Least: 4, Most: 5}, {Count: 2, Ints: 2, Low: 5, Least: 3, Most: 2}, {Count: 2, Ints: 2, Low: 6, Least: 2, Most: 3},
		{Count: 3, Ints: 3, Low: 7, Least: 2, Most: 3}, {Count: 3, Ints: 3, Low: 8, Least: 2, Most: 3}, {Count: 3, Ints: 3, Low: 6, Least: 2, Most: 3}, {Count: 3, Ints: 3, Low: 9, Least: 2, Most: 3},
	} {
		check(r)
	}
	full := api.Red{Count: api.MaxCount, Ints: api.MaxCount, Least: math.MinInt64, Most: math.MinInt64}
	full.High, full.Low = split(new(big.Int).Mul(big.NewInt(math.MinInt64), big.NewInt(api.MaxCount)))
	check(full)
	full.Low++
	check(full)
	full.Most = math.MaxInt64
	full.High, full.Low = split(new(big.Int).Mul(big.NewInt(math.MaxInt64), big.NewInt(api.MaxCount-2)))
	check(full)
	full.High++
	check(full)
}

// P13.1
func TestOne(t *testing.T) {
	for _, n := range numbers {
		want := api.Red{Count: 1, Ints: 1, Least: n, Most: n}
		want.High, want.Low = split(big.NewInt(n))
		if r := monoid.One(item(row{true, n})); r != want {
			t.Errorf("One(%d) = %+v", n, r)
		}
		if r := monoid.One(item(row{false, n})); r != (api.Red{Count: 1}) {
			t.Errorf("One of a row without a number = %+v", r)
		}
	}
}

// P13.2, P13.5
func TestJoin(t *testing.T) {
	random := rand.New(rand.NewSource(14))
	for range 1000 {
		var all []row
		var parts []api.Red
		for range random.Intn(5) {
			rows := someRows(random)
			all = append(all, rows...)
			parts = append(parts, reduced(rows))
		}
		if r, err := monoid.Join(parts...); r != reduced(all) || err != api.OK {
			t.Fatalf("Join(%+v) = %+v %d", parts, r, err)
		}
		for i, j := 0, len(parts)-1; i < j; i, j = i+1, j-1 {
			parts[i], parts[j] = parts[j], parts[i]
		}
		if r, err := monoid.Join(append(parts, api.Red{})...); r != reduced(all) || err != api.OK {
			t.Fatalf("Join in reverse = %+v %d", r, err)
		}
		if len(parts) > 2 {
			a, _ := monoid.Join(parts[0], parts[1])
			b, _ := monoid.Join(parts[1:]...)
			x, _ := monoid.Join(append([]api.Red{a}, parts[2:]...)...)
			if y, _ := monoid.Join(parts[0], b); x != y {
				t.Fatalf("%+v and %+v", x, y)
			}
		}
	}
	if r, err := monoid.Join(); r != (api.Red{}) || err != api.OK {
		t.Errorf("Join() = %+v %d", r, err)
	}
}

// P13.2
func TestJoinErrors(t *testing.T) {
	most, one, wrong := api.Red{Count: api.MaxCount}, api.Red{Count: 1}, api.Red{Count: 1, Ints: 1, Low: 5, Least: 4, Most: 5}
	for _, x := range []struct {
		l    []api.Red
		want api.Red
		err  api.Errno
	}{
		{[]api.Red{most}, most, api.OK}, {[]api.Red{most, {}}, most, api.OK}, {[]api.Red{{Count: api.MaxCount - 1}, one}, most, api.OK},
		{[]api.Red{most, one}, api.Red{}, api.ErrOver}, {[]api.Red{one, most}, api.Red{}, api.ErrOver}, {[]api.Red{most, most, most}, api.Red{}, api.ErrOver},
		{[]api.Red{wrong}, api.Red{}, api.ErrRed}, {[]api.Red{one, wrong}, api.Red{}, api.ErrRed}, {[]api.Red{most, one, wrong}, api.Red{}, api.ErrRed}, {[]api.Red{{Count: -1}, most, one}, api.Red{}, api.ErrRed},
	} {
		if r, err := monoid.Join(x.l...); r != x.want || err != x.err {
			t.Errorf("Join(%+v) = %+v %d", x.l, r, err)
		}
	}
}

// P13.3, P13.5
func TestTell(t *testing.T) {
	null := value.Null()
	for _, x := range []struct {
		rows []row
		want [6]api.Value // by kind; Kind 0 stands for ErrOver
	}{
		{nil, [6]api.Value{{}, value.Int(0), value.Int(0), null, null}},
		{[]row{{}}, [6]api.Value{{}, value.Int(1), value.Int(0), null, null}},
		{[]row{{true, -1}, {}, {true, 3}}, [6]api.Value{{}, value.Int(3), value.Int(2), value.Int(-1), value.Int(3)}},
		{[]row{{true, 0}}, [6]api.Value{{}, value.Int(1), value.Int(0), value.Int(0), value.Int(0)}},
		{[]row{{true, math.MaxInt64}, {true, math.MaxInt64}}, [6]api.Value{{}, value.Int(2), {}, value.Int(math.MaxInt64), value.Int(math.MaxInt64)}},
		{[]row{{true, math.MaxInt64}, {true, 1}}, [6]api.Value{{}, value.Int(2), {}, value.Int(1), value.Int(math.MaxInt64)}},
		{[]row{{true, math.MinInt64}, {true, -1}}, [6]api.Value{{}, value.Int(2), {}, value.Int(math.MinInt64), value.Int(-1)}},
		{[]row{{true, math.MaxInt64}, {true, 5}, {true, -5}}, [6]api.Value{{}, value.Int(3), value.Int(math.MaxInt64), value.Int(-5), value.Int(math.MaxInt64)}},
		{[]row{{true, math.MinInt64}, {true, -1}, {true, 1}}, [6]api.Value{{}, value.Int(3), value.Int(math.MinInt64), value.Int(math.MinInt64), value.Int(1)}},
	} {
		var parts []api.Red
		ints := int64(0)
		for _, r := range x.rows {
			parts = append(parts, monoid.One(item(r)))
			if r.is {
				ints++
			}
		}
		r, err := monoid.Join(parts...)
		if err != api.OK {
			t.Fatal(err)
		}
		if sum := x.want[api.RdSum]; sum.Kind != 0 {
			x.want[api.RdStats] = api.Value{Kind: api.VObject, Keys: []string{"count", "max", "min", "numbers", "sum"}, Kids: []api.Value{x.want[api.RdCount], x.want[api.RdMost], x.want[api.RdLeast], value.Int(ints), sum}}
		}
		for kind := api.RdCount; kind <= api.RdStats; kind++ {
			want := x.want[kind]
			got, err := monoid.Tell(kind, r)
			if want.Kind == 0 && (err != api.ErrOver || got.Kind != 0) || want.Kind != 0 && (err != api.OK || !value.Same(got, want)) {
				t.Errorf("Tell(%d) of %v = %v %d, want %v", kind, x.rows, got, err, want)
			}
		}
		for _, kind := range []int{0, -1, 6, math.MaxInt, math.MinInt} {
			if got, err := monoid.Tell(kind, r); err != api.ErrArg || got.Kind != 0 {
				t.Errorf("Tell(%d) = %v %d", kind, got, err)
			}
		}
	}
	for kind := -1; kind < 7; kind++ {
		if got, err := monoid.Tell(kind, api.Red{Count: -1}); err != api.ErrRed || got.Kind != 0 {
			t.Errorf("Tell(%d) of an invalid reduction = %v %d", kind, got, err)
		}
	}
}

// P13.4
func TestKindAndName(t *testing.T) {
	for kind, name := range map[int]string{api.RdCount: "_count", api.RdSum: "_sum", api.RdLeast: "_min", api.RdMost: "_max", api.RdStats: "_stats"} {
		if k, err := monoid.Kind(name); k != kind || err != api.OK {
			t.Errorf("Kind(%s) = %d %d", name, k, err)
		}
		if s, err := monoid.Name(kind); s != name || err != api.OK {
			t.Errorf("Name(%d) = %s %d", kind, s, err)
		}
	}
	for _, name := range []string{"", "sum", "_Sum", "_sum ", "count", "_least", "_"} {
		if k, err := monoid.Kind(name); k != 0 || err != api.ErrNone {
			t.Errorf("Kind(%q) = %d %d", name, k, err)
		}
	}
	for _, kind := range []int{0, -1, 6, math.MaxInt, math.MinInt} {
		if s, err := monoid.Name(kind); s != "" || err != api.ErrArg {
			t.Errorf("Name(%d) = %q %d", kind, s, err)
		}
	}
}
