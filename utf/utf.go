// Package utf encodes and decodes UTF-8.
package utf

import (
	"iter"

	"davenport/api"
)

// form is one way to encode code points: those from low to high take size bytes, the first of which holds the bits lead.
type form struct {
	low, high, size, lead int
}

var forms = [4]form{
	{0, 0x7F, 1, 0},
	{0x80, 0x7FF, 2, 0xC0},
	{0x800, 0xFFFF, 3, 0xE0},
	{0x10000, 0x10FFFF, 4, 0xF0},
}

func (f form) holds(cp int) bool {
	return cp >= f.low && cp <= f.high && (cp < 0xD800 || cp > 0xDFFF)
}

// room is the number of values that the first byte's own bits can take.
func (f form) room() int {
	if f.size == 1 {
		return 0x80
	}
	return 1 << (7 - f.size)
}

func (f form) starts(first int) bool {
	return first >= f.lead && first < f.lead+f.room()
}

// find returns the form that fits n, or the zero form.
func find(fits func(form, int) bool, n int) form {
	var found form
search:
	for _, f := range forms {
		switch {
		case fits(f, n):
			found = f
			break search
		}
	}
	return found
}

// encoding yields the bytes of a code point of the form.
func (f form) encoding(cp int) iter.Seq[byte] {
	return func(yield func(byte) bool) {
		shift := 6 * (f.size - 1)
		if !yield(byte(f.lead | cp>>shift)) {
			return
		}
		for shift > 0 {
			shift -= 6
			if !yield(byte(0x80 | cp>>shift&0x3F)) {
				return
			}
		}
	}
}

// decode reads the code point whose encoding starts at an offset below len(s).
func decode[T string | []byte](s T, at int) (int, int, api.Errno) {
	f := find(form.starts, int(s[at]))
	if f == (form{}) || f.size > len(s)-at {
		return 0, 0, api.ErrUtf
	}
	cp := int(s[at]) - f.lead
	for i := 1; i < f.size; i++ {
		b := int(s[at+i])
		if b&0xC0 != 0x80 {
			return 0, 0, api.ErrUtf
		}
		cp = cp<<6 | b&0x3F
	}
	// A form that does not hold its own number is overlong, a surrogate or too great.
	if !f.holds(cp) {
		return 0, 0, api.ErrUtf
	}
	return cp, at + f.size, api.OK
}

// walk visits the code points of s in order, and returns the first error and its offset.
func walk[T string | []byte](s T, visit func(cp int)) (int, api.Errno) {
	for at := 0; at < len(s); {
		cp, next, err := decode(s, at)
		if err != api.OK {
			return at, err
		}
		visit(cp)
		at = next
	}
	return 0, api.OK
}

// Size returns the length of the encoding of cp, or 0 if cp is not a code point.
func Size(cp int) int {
	return find(form.holds, cp).size
}

// Put returns b followed by the encoding of cp.
func Put(b []byte, cp int) ([]byte, api.Errno) {
	f := find(form.holds, cp)
	if f == (form{}) {
		return nil, api.ErrUtf
	}
	out := make([]byte, len(b), len(b)+f.size)
	copy(out, b)
	for x := range f.encoding(cp) {
		out = append(out, x)
	}
	return out, api.OK
}

// Next returns the code point whose encoding starts at an offset, and the offset after it.
func Next(b []byte, at int) (int, int, api.Errno) {
	if at < 0 || at > len(b) {
		return 0, 0, api.ErrArg
	}
	if at == len(b) {
		return 0, 0, api.ErrShort
	}
	return decode(b, at)
}

// Check returns the offset of the first error of s.
func Check(s string) (int, api.Errno) {
	return walk(s, func(int) {})
}

// Points returns the code points of s, or the offset of its first error.
func Points(s string) ([]int, int, api.Errno) {
	var out []int
	at, err := walk(s, func(cp int) { out = append(out, cp) })
	if err != api.OK {
		return nil, at, err
	}
	return out, 0, api.OK
}

// Text returns the concatenated encodings of code points.
func Text(cps []int) (string, api.Errno) {
	var out []byte
	for _, cp := range cps {
		f := find(form.holds, cp)
		if f == (form{}) {
			return "", api.ErrUtf
		}
		for x := range f.encoding(cp) {
			out = append(out, x)
		}
	}
	return string(out), api.OK
}
