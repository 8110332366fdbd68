package numeral_test

import (
	"math"
	"math/big"
	"math/rand"
	"regexp"
	"strings"
	"testing"

	"davenport/api"
	"davenport/numeral"
)

// P3.1
func TestRead(t *testing.T) {
	const long = "99999999999999999999999999999999999999999999"
	for _, x := range []struct {
		text string
		at   int
		n    int64
		next int
		err  api.Errno
	}{
		{"12", 0, 12, 2, api.OK}, {"-0", 0, 0, 2, api.OK}, {"a-7b", 1, -7, 3, api.OK}, {"0", 0, 0, 1, api.OK}, {"01", 0, 0, 1, api.OK}, {"01", 1, 1, 2, api.OK},
		{"-01", 0, 0, 2, api.OK}, {"00", 0, 0, 1, api.OK}, {"1-2", 0, 1, 1, api.OK}, {"1+2", 0, 1, 1, api.OK}, {"10,", 0, 10, 2, api.OK}, {"7f", 0, 7, 1, api.OK}, {"9:", 0, 9, 1, api.OK}, {"9/", 0, 9, 1, api.OK},
		{"9223372036854775807", 0, math.MaxInt64, 19, api.OK}, {"-9223372036854775808", 0, math.MinInt64, 20, api.OK},
		{"9223372036854775808", 0, 0, 0, api.ErrNumber}, {"-9223372036854775809", 0, 0, 0, api.ErrNumber}, {"x" + long, 1, 0, 1, api.ErrNumber}, {"-" + long, 0, 0, 0, api.ErrNumber},
		{"1.5", 0, 0, 0, api.ErrNumber}, {"x2E7", 1, 0, 1, api.ErrNumber}, {"0.0", 0, 0, 0, api.ErrNumber}, {"1e0", 0, 0, 0, api.ErrNumber}, {"1E+0", 0, 0, 0, api.ErrNumber}, {"1e-0", 0, 0, 0, api.ErrNumber}, {"1.0e5", 0, 0, 0, api.ErrNumber}, {"-0.5x", 0, 0, 0, api.ErrNumber}, {"1.5.5", 0, 0, 0, api.ErrNumber}, {long + ".5", 0, 0, 0, api.ErrNumber},
		{"", 0, 0, 0, api.ErrForm}, {"1", 1, 0, 1, api.ErrForm}, {"x", 0, 0, 0, api.ErrForm}, {"+1", 0, 0, 0, api.ErrForm}, {".5", 0, 0, 0, api.ErrForm}, {" 1", 0, 0, 0, api.ErrForm}, {"e5", 0, 0, 0, api.ErrForm},
		{"-", 0, 0, 1, api.ErrForm}, {"--1", 0, 0, 1, api.ErrForm}, {"-x", 0, 0, 1, api.ErrForm}, {"-.5", 0, 0, 1, api.ErrForm},
		{"1.", 0, 0, 2, api.ErrForm}, {"1.x", 0, 0, 2, api.ErrForm}, {"1.-5", 0, 0, 2, api.ErrForm}, {"1.e5", 0, 0, 2, api.ErrForm}, {"0.", 0, 0, 2, api.ErrForm},
		{"1e", 0, 0, 2, api.ErrForm}, {"1e+", 0, 0, 3, api.ErrForm}, {"1E-x", 0, 0, 3, api.ErrForm}, {"1e+-5", 0, 0, 3, api.ErrForm}, {"x1.5e", 1, 0, 5, api.ErrForm}, {long + ".", 0, 0, 45, api.ErrForm}, {"0e", 0, 0, 2, api.ErrForm},
		{"1", 2, 0, 0, api.ErrArg}, {"1", -1, 0, 0, api.ErrArg}, {"", 1, 0, 0, api.ErrArg}, {"1", math.MaxInt, 0, 0, api.ErrArg}, {"1", math.MinInt, 0, 0, api.ErrArg},
	} {
		if n, next, err := numeral.Read([]byte(x.text), x.at); n != x.n || next != x.next || err != x.err {
			t.Errorf("Read(%q, %d) = %d %d %d, want %d %d %d", x.text, x.at, n, next, err, x.n, x.next, x.err)
		}
	}
}

// P3.1: all short texts of the bytes that matter, against the grammar written as a pattern.
func TestReadOfShortTexts(t *testing.T) {
	whole := regexp.MustCompile(`^-?(0|[1-9][0-9]*)(\.[0-9]+)?([eE][+-]?[0-9]+)?`)
	broken := regexp.MustCompile(`^(-|-?(0|[1-9][0-9]*)(\.|(\.[0-9]+)?[eE][+-]?))?$`)
	texts := []string{""}
	for range 6 {
		var longer []string
		for _, s := range texts {
			for _, c := range "019-+.eE" {
				longer = append(longer, s+string(c))
			}
		}
		for _, s := range longer {
			n, next, err := numeral.Read([]byte(s), 0)
			at := 0
			for at < len(s) && (broken.MatchString(s[:at+1]) || whole.FindString(s[:at+1]) == s[:at+1]) {
				at++ // the longest part that can be continued to a numeral
			}
			read := s[:at]
			switch {
			case broken.MatchString(read):
				if n != 0 || next != at || err != api.ErrForm {
					t.Fatalf("Read(%q) = %d %d %d, want ErrForm at %d", s, n, next, err, at)
				}
			case strings.ContainsAny(read, ".eE"):
				if n != 0 || next != 0 || err != api.ErrNumber {
					t.Fatalf("Read(%q) = %d %d %d, want ErrNumber", s, n, next, err)
				}
			default:
				want, _ := new(big.Int).SetString(read, 10)
				if n != want.Int64() || next != at || err != api.OK {
					t.Fatalf("Read(%q) = %d %d %d, want %d %d", s, n, next, err, want, at)
				}
			}
		}
		texts = longer
		if len(texts) > 40000 {
			break
		}
	}
}

func numbers() []int64 {
	out := []int64{0, 1, -1, 9, 10, -9, -10, 99, 100, math.MaxInt64, math.MinInt64, math.MaxInt64 - 1, math.MinInt64 + 1, 1 << 53, -1 << 53}
	random := rand.New(rand.NewSource(3))
	for range 2000 {
		out = append(out, int64(random.Uint64())>>random.Intn(64))
	}
	return out
}

// P3.2, P3.3
func TestPrintSizeAndReadAgain(t *testing.T) {
	for _, n := range numbers() {
		want := big.NewInt(n).String()
		if s := numeral.Print(n); s != want || numeral.Size(n) != len(want) {
			t.Errorf("Print, Size of %s = %s, %d", want, s, numeral.Size(n))
		}
		for _, tail := range []string{"", " ", "x", "-", "+", ","} {
			if got, next, err := numeral.Read([]byte("7"+want+tail), 1); got != n || next != 1+len(want) || err != api.OK {
				t.Errorf("Read(%q) = %d %d %d", want+tail, got, next, err)
			}
		}
	}
}

// P3.3
func TestMoreDigitsAreGreater(t *testing.T) {
	l := numbers()
	for _, a := range l[:200] {
		for _, b := range l {
			if a >= 0 && b >= 0 && numeral.Size(a) > numeral.Size(b) && a <= b {
				t.Errorf("%d has more digits than %d", a, b)
			}
		}
	}
}
