package db

import (
	"bytes"

	"davenport/api"
)

// state is what a root record tells of a database.
type state struct {
	coll  api.Coll
	views []api.View
}

// number is a number, and how many bytes it is encoded in.
type number struct {
	n    uint64
	size int
}

// laid appends the encodings of numbers, most significant byte first.
func laid(out []byte, numbers ...number) []byte {
	for _, x := range numbers {
		for shift := 8 * (x.size - 1); shift >= 0; shift -= 8 {
			out = append(out, byte(x.n>>shift))
		}
	}
	return out
}

func putTree(out []byte, t api.Tree) []byte {
	r := t.Red
	return laid(out, number{uint64(t.At), 4}, number{uint64(t.Depth), 1}, number{uint64(r.Count), 4}, number{uint64(r.Ints), 4},
		number{uint64(r.High), 8}, number{r.Low, 8}, number{uint64(r.Least), 8}, number{uint64(r.Most), 8})
}

// encode returns the root record of a state.
func encode(s state) []byte {
	out := laid(nil, number{s.coll.Seq, 8})
	out = putTree(putTree(out, s.coll.ById), s.coll.BySeq)
	out = laid(out, number{uint64(len(s.views)), 1})
	for _, v := range s.views {
		out = append(laid(out, number{uint64(len(v.Name)), 1}), v.Name...)
		out = append(laid(out, number{uint64(len(v.Source)), 2}), v.Source...)
		out = laid(putTree(putTree(out, v.Rows), v.Back), number{v.Seq, 8})
	}
	return out
}

// short is the panic of a decoder that runs out of input.
type short struct{}

// decoder reads the rest of its input.
type decoder struct {
	rest []byte
}

func (d *decoder) take(n int) []byte {
	if n > len(d.rest) {
		panic(short{})
	}
	head := d.rest[:n]
	d.rest = d.rest[n:]
	return head
}

// numeric is what numbers are decoded to.
type numeric interface {
	int | int64 | uint64
}

// decoded reads a number of some bytes.
func decoded[T numeric](d *decoder, size int) T {
	n := uint64(0)
	for _, x := range d.take(size) {
		n = n<<8 | uint64(x)
	}
	return T(n)
}

func (d *decoder) text(size int) string {
	return string(d.take(decoded[int](d, size)))
}

func (d *decoder) tree() api.Tree {
	t := api.Tree{At: decoded[int](d, 4), Depth: decoded[int](d, 1)}
	t.Red = api.Red{Count: decoded[int](d, 4), Ints: decoded[int](d, 4), High: decoded[int64](d, 8), Low: decoded[uint64](d, 8), Least: decoded[int64](d, 8), Most: decoded[int64](d, 8)}
	return t
}

func (d *decoder) state() state {
	var s state
	s.coll = api.Coll{Seq: decoded[uint64](d, 8), ById: d.tree(), BySeq: d.tree()}
	for range decoded[int](d, 1) {
		v := api.View{Name: d.text(1), Source: d.text(2), Rows: d.tree(), Back: d.tree(), Seq: decoded[uint64](d, 8)}
		s.views = append(s.views, v)
	}
	return s
}

// decode returns the state whose root record b is, if there is one.
func decode(b []byte) (s state, ok bool) {
	defer func() {
		if r := recover(); r != nil {
			if _, is := r.(short); !is {
				panic(r)
			}
			s, ok = state{}, false
		}
	}()
	d := &decoder{b}
	s = d.state()
	if !bytes.Equal(encode(s), b) {
		return state{}, false
	}
	return s, true
}
