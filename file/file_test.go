package file_test

import (
	"bytes"
	"math"
	"math/rand"
	"slices"
	"testing"

	"davenport/api"
	"davenport/file"
)

func flat(f api.File) []byte {
	return append(bytes.Clone(f.Firm), bytes.Join(f.Loose, nil)...)
}

// same compares all fields, of invalid files too.
func same(f, g api.File) bool {
	return f.Fuse == g.Fuse && f.Fault == g.Fault && f.Off == g.Off && bytes.Equal(f.Firm, g.Firm) && slices.EqualFunc(f.Loose, g.Loose, bytes.Equal)
}

func made(firm string, pieces ...string) api.File {
	f := api.File{Firm: []byte(firm), Fuse: -1, Fault: -1}
	for _, p := range pieces {
		f.Loose = append(f.Loose, []byte(p))
	}
	return f
}

func wrongFiles() []api.File {
	l := []api.File{made("a", "b", ""), made("", ""), {Fuse: -2, Fault: -1}, {Fuse: -1, Fault: -2}, {Fuse: math.MinInt, Fault: -1}, {Off: true, Fuse: 0, Fault: -1}, {Off: true, Fuse: 3, Fault: -1}}
	big := made("a")
	big.Firm = make([]byte, api.MaxFile+1)
	parts := made("a", "b")
	parts.Firm = make([]byte, api.MaxFile)
	return append(l, big, parts)
}

// P10.1
func TestNewCheckSameAndLen(t *testing.T) {
	if f := file.New(); !same(f, made("")) {
		t.Errorf("New = %v", f)
	}
	full := made("", "x", "y")
	full.Firm = make([]byte, api.MaxFile-2)
	right := []struct {
		f api.File
		n int
	}{
		{file.New(), 0}, {made("abc"), 3}, {made("abd"), 3}, {made("ab", "c"), 3}, {made("", "a", "bc"), 3}, {made("", "ab", "c"), 3}, {full, api.MaxFile},
		{api.File{Fuse: 0, Fault: -1}, 0}, {api.File{Fuse: 5, Fault: -1}, 0}, {api.File{Fuse: -1, Fault: 0}, 0}, {api.File{Fuse: 5, Fault: 7}, 0}, {api.File{Off: true, Fuse: -1, Fault: -1}, 0}, {api.File{Off: true, Fuse: -1, Fault: 2}, 0},
	}
	for i, x := range right {
		if err := file.Check(x.f); err != api.OK {
			t.Errorf("Check of file %d = %d", i, err)
		}
		if n := file.Len(x.f); n != x.n {
			t.Errorf("Len of file %d = %d", i, n)
		}
		for j, y := range right {
			if file.Same(x.f, y.f) != (i == j) {
				t.Errorf("Same of files %d and %d", i, j)
			}
		}
	}
	for i, f := range wrongFiles() {
		if err := file.Check(f); err != api.ErrFile {
			t.Errorf("Check of wrong file %d = %d", i, err)
		}
		if file.Len(f) != 0 || file.Same(f, f) || file.Same(f, file.New()) || file.Same(file.New(), f) {
			t.Errorf("Len, Same of wrong file %d", i)
		}
	}
}

// P10.2
func TestRead(t *testing.T) {
	dark := made("abc", "de", "f", "ghi")
	dark.Off = true
	for _, f := range []api.File{made("abc", "de", "f", "ghi"), made("abcdefghi"), made("", "abcdefghi"), dark} {
		for at := range 11 {
			for n := range 11 {
				b, err := file.Read(f, at, n)
				switch {
				case at+n > 9:
					if len(b) != 0 || err != api.ErrShort {
						t.Errorf("Read(%d, %d) = %q %d", at, n, b, err)
					}
				case string(b) != "abcdefghi"[at:at+n] || err != api.OK:
					t.Errorf("Read(%d, %d) = %q %d", at, n, b, err)
				}
			}
		}
		for _, x := range []struct {
			at, n int
			err   api.Errno
		}{{-1, 1, api.ErrArg}, {1, -1, api.ErrArg}, {-1, math.MaxInt, api.ErrArg}, {99, -1, api.ErrArg}, {1, math.MaxInt, api.ErrShort}, {math.MaxInt, 1, api.ErrShort}, {math.MaxInt, math.MaxInt, api.ErrShort}, {10, 0, api.ErrShort}} {
			if b, err := file.Read(f, x.at, x.n); len(b) != 0 || err != x.err {
				t.Errorf("Read(%d, %d) = %q %d", x.at, x.n, b, err)
			}
		}
	}
	for i, f := range wrongFiles() {
		if b, err := file.Read(f, -1, 0); len(b) != 0 || err != api.ErrFile {
			t.Errorf("Read of wrong file %d = %q %d", i, b, err)
		}
	}
}

// after is what an operation makes of a valid file; no bytes stand for a sync.
func after(f api.File, b []byte) (api.File, api.Errno) {
	grows := len(flat(f)) + len(b)
	switch {
	case f.Off:
		return f, api.ErrOff
	case len(b) > 0 && grows > api.MaxFile:
		return f, api.ErrFull
	case f.Fault == 0:
		f.Fault = -1
		return f, api.ErrIo
	case f.Fuse == 0:
		f.Off, f.Fuse = true, -1
		if f.Fault > 0 {
			f.Fault--
		}
		return f, api.ErrOff
	}
	if f.Fault > 0 {
		f.Fault--
	}
	if f.Fuse > 0 {
		f.Fuse--
	}
	if len(b) > 0 {
		f.Loose = append(slices.Clone(f.Loose), b)
	} else {
		f.Firm, f.Loose = flat(f), nil
	}
	return f, api.OK
}

// P10.3: every state of the fuses, of the power, and of the space.
func TestAppendAndSync(t *testing.T) {
	for _, fuse := range []int{-1, 0, 1, 5} {
		for _, fault := range []int{-1, 0, 1, 5} {
			for _, off := range []bool{false, true} {
				for _, room := range []int{0, 1, 2, api.MaxFile - 1} {
					f := made("", "z")
					f.Firm = make([]byte, api.MaxFile-1-room)
					f.Fuse, f.Fault, f.Off = fuse, fault, off
					if off {
						f.Fuse = -1
					}
					for _, b := range []string{"", "p", "pq"} {
						want, wantErr := after(f, []byte(b))
						got, err := file.Sync(f)
						if b != "" {
							got, err = file.Append(f, []byte(b))
						}
						if err != wantErr || !same(got, want) {
							t.Fatalf("Fuse %d, Fault %d, Off %v, room for %d, appending %q: %d, want %d", fuse, fault, off, room, b, err, wantErr)
						}
					}
					if got, err := file.Append(f, nil); err != api.ErrArg || !same(got, f) {
						t.Fatalf("Append of nothing = %d", err)
					}
				}
			}
		}
	}
	for i, f := range wrongFiles() {
		if got, err := file.Append(f, nil); err != api.ErrFile || !same(got, f) {
			t.Errorf("Append to wrong file %d = %d", i, err)
		}
		if got, err := file.Sync(f); err != api.ErrFile || !same(got, f) {
			t.Errorf("Sync of wrong file %d = %d", i, err)
		}
	}
}

// P10.3: earlier files stay as they are when later ones go different ways.
func TestAppendLeavesItsArgument(t *testing.T) {
	f := file.New()
	for range 3 {
		f, _ = file.Append(f, []byte("a"))
	}
	g, _ := file.Append(f, []byte("b"))
	h, _ := file.Append(f, []byte("c"))
	if string(flat(f)) != "aaa" || string(flat(g)) != "aaab" || string(flat(h)) != "aaac" {
		t.Errorf("%q, %q, %q", flat(f), flat(g), flat(h))
	}
	g, _ = file.Sync(g)
	g2, _ := file.Append(g, []byte("d"))
	g2, _ = file.Sync(g2)
	g3, _ := file.Append(g, []byte("e"))
	g3, _ = file.Sync(g3)
	if string(g.Firm) != "aaab" || string(g2.Firm) != "aaabd" || string(g3.Firm) != "aaabe" {
		t.Errorf("%q, %q, %q", g.Firm, g2.Firm, g3.Firm)
	}
}

// P10.4
func TestLightAndRefuse(t *testing.T) {
	f := made("a", "b")
	f.Fuse, f.Fault = 7, 8
	for _, x := range []struct{ n, want int }{{0, 0}, {5, 5}, {-1, -1}, {-9, -1}, {math.MinInt, -1}, {math.MaxInt, math.MaxInt}} {
		want := f
		want.Fuse = x.want
		if got, err := file.Light(f, x.n); err != api.OK || !same(got, want) {
			t.Errorf("Light(%d) = %v %d", x.n, got, err)
		}
		want = f
		want.Fault = x.want
		if got, err := file.Refuse(f, x.n); err != api.OK || !same(got, want) {
			t.Errorf("Refuse(%d) = %v %d", x.n, got, err)
		}
	}
	f.Off, f.Fuse = true, -1
	for i, g := range append(wrongFiles(), f) {
		want := api.ErrFile
		if file.Check(g) == api.OK {
			want = api.ErrOff
		}
		if got, err := file.Light(g, 3); err != want || !same(got, g) {
			t.Errorf("Light of file %d = %d", i, err)
		}
		if got, err := file.Refuse(g, 3); err != want || !same(got, g) {
			t.Errorf("Refuse of file %d = %d", i, err)
		}
	}
}

// P10.5
func TestCrash(t *testing.T) {
	f := made("123", "4", "56", "7")
	f.Fuse, f.Fault = 3, 4
	dark := f
	dark.Off, dark.Fuse = true, -1
	for _, x := range []struct {
		keep      []bool
		tear, cut int
		want      string
	}{
		{[]bool{false, true}, 2, 0, "123\x0056"}, {nil, 1, 1, "123\x005"}, {nil, -1, 0, "123"}, {nil, -1, 9, "123"}, {nil, 3, 9, "123"}, {nil, math.MaxInt, 9, "123"}, {nil, math.MinInt, 9, "123"},
		{[]bool{true, true, true}, -1, 0, "1234567"}, {[]bool{true, true, true, true, true}, 9, 0, "1234567"}, {[]bool{false, false, true}, -1, 0, "123\x00\x00\x007"}, {[]bool{true, false, true}, -1, 0, "1234\x00\x007"},
		{[]bool{true}, -1, 0, "1234"}, {[]bool{true, true, true}, 2, 0, "123456"}, {[]bool{true, true, true}, 1, 0, "1234\x00\x007"}, {[]bool{true, true, true}, 1, -5, "1234\x00\x007"}, {[]bool{true, true, true}, 1, 1, "12345\x007"},
		{nil, 1, 2, "123\x0056"}, {nil, 1, 3, "123\x0056"}, {nil, 1, math.MaxInt, "123\x0056"}, {nil, 1, math.MinInt, "123"}, {nil, 0, 1, "1234"},
	} {
		for _, g := range []api.File{f, dark} {
			if got, err := file.Crash(g, x.keep, x.tear, x.cut); err != api.OK || !same(got, made(x.want)) {
				t.Errorf("Crash(%v, %d, %d) = %q %d, want %q", x.keep, x.tear, x.cut, flat(got), err, x.want)
			}
		}
	}
	for i, g := range wrongFiles() {
		if got, err := file.Crash(g, nil, 0, 0); err != api.ErrFile || !same(got, g) {
			t.Errorf("Crash of wrong file %d = %d", i, err)
		}
	}
}

// P10.6: what is promised of any sequence of operations.
func TestConsequences(t *testing.T) {
	random := rand.New(rand.NewSource(10))
	for range 300 {
		f := file.New()
		for range 30 {
			before, firm := flat(f), bytes.Clone(f.Firm)
			var err api.Errno
			switch random.Intn(8) {
			case 0:
				f, err = file.Sync(f)
			case 1:
				f, err = file.Light(f, random.Intn(9)-1)
			case 2:
				f, err = file.Refuse(f, random.Intn(5)-1)
			case 3:
				keep := make([]bool, random.Intn(6))
				for i := range keep {
					keep[i] = random.Intn(2) == 0
				}
				f, err = file.Crash(f, keep, random.Intn(5)-1, random.Intn(6)-1)
				got := flat(f)
				if err != api.OK || len(got) > len(before) || len(f.Loose) != 0 {
					t.Fatalf("Crash of %q = %q %d", before, got, err)
				}
				for i := range got {
					if got[i] != before[i] && got[i] != 0 {
						t.Fatalf("Crash of %q = %q", before, got)
					}
				}
			default:
				f, err = file.Append(f, bytes.Repeat([]byte{byte('a' + random.Intn(26))}, 1+random.Intn(4)))
				if err == api.OK {
					before = append(before, f.Loose[len(f.Loose)-1]...)
				}
				if !bytes.Equal(flat(f), before) {
					t.Fatalf("Append = %d and %q, want %q", err, flat(f), before)
				}
			}
			if !bytes.HasPrefix(f.Firm, firm) || file.Check(f) != api.OK {
				t.Fatalf("durable bytes have changed: %q, %q", firm, f.Firm)
			}
			keep := slices.Repeat([]bool{true}, len(f.Loose))
			if g, err := file.Crash(f, keep, -1, 0); err != api.OK || !bytes.Equal(g.Firm, flat(f)) {
				t.Fatalf("all pieces of %q survive as %q", flat(f), g.Firm)
			}
		}
	}
	for n := range 5 {
		f, _ := file.Light(file.New(), n)
		for i := range 8 {
			var err api.Errno
			f, err = file.Append(f, []byte("a"))
			if (err == api.OK) != (i < n) || i >= n && err != api.ErrOff {
				t.Errorf("operation %d with a Fuse of %d = %d", i, n, err)
			}
		}
	}
}
