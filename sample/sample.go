// Package sample makes up values for tests; what it makes depends on the seed alone.
package sample

import (
	"slices"
	"strconv"

	"davenport/api"
)

// Source is a sequence of numbers that look arbitrary.
type Source struct {
	state uint64
}

// New returns the source of a seed.
func New(seed uint64) *Source {
	return &Source{state: seed*2862933555777941757 + 3037000493}
}

// Bits returns the next number.
func (s *Source) Bits() uint64 {
	s.state = s.state*6364136223846793005 + 1442695040888963407
	x := s.state
	x ^= x >> 33
	x *= 0xff51afd7ed558ccd
	return x ^ x>>29
}

// Below returns a number from 0 to n - 1.
func (s *Source) Below(n int) int {
	return int(s.Bits() % uint64(n))
}

// Int returns a number of any length, some of them at the limits.
func (s *Source) Int() int64 {
	switch s.Below(8) {
	case 0:
		return -1 << 63
	case 1:
		return 1<<63 - 1
	}
	return int64(s.Bits()) >> s.Below(64)
}

// Text returns a short string.
func (s *Source) Text() string {
	signs := [...]string{"a", "b", "z", "\x00", "\x01", "\"", "\\", "/", "\n", " ", "\x7f", "é", "€", "😀", "\U0010ffff", ""}
	out := ""
	for range s.Below(4) {
		out += signs[s.Below(len(signs))]
	}
	return out
}

// Value returns a valid value of at most that depth.
func (s *Source) Value(depth int) api.Value {
	kind := api.VNull + s.Below(6)
	if depth == 0 {
		kind = api.VNull + s.Below(4)
	}
	v := api.Value{Kind: kind}
	switch kind {
	case api.VBool:
		v.N = int64(s.Below(2))
	case api.VInt:
		v.N = s.Int()
	case api.VText:
		v.S = s.Text()
	case api.VObject:
		for range s.Below(4) {
			v.Keys = append(v.Keys, s.Text())
		}
		slices.Sort(v.Keys)
		v.Keys = slices.Compact(v.Keys)
		for range v.Keys {
			v.Kids = append(v.Kids, s.Value(depth-1))
		}
	case api.VList:
		for range s.Below(4) {
			v.Kids = append(v.Kids, s.Value(depth-1))
		}
	}
	return v
}

// Values returns n valid values.
func (s *Source) Values(n int) []api.Value {
	var out []api.Value
	for range n {
		out = append(out, s.Value(s.Below(4)))
	}
	return out
}

// Nest returns a list of that depth, and null for depth 0.
func Nest(depth int) api.Value {
	v := api.Value{Kind: api.VNull}
	for range depth {
		v = api.Value{Kind: api.VList, Kids: []api.Value{v}}
	}
	return v
}

// Wide returns a list of that many nodes.
func Wide(nodes int) api.Value {
	v := api.Value{Kind: api.VList}
	for range nodes - 1 {
		v.Kids = append(v.Kids, api.Value{Kind: api.VNull})
	}
	return v
}

// Wrong returns values that are not valid, each for a reason of its own.
func Wrong() []api.Value {
	null, list := api.Value{Kind: api.VNull}, []api.Value{{Kind: api.VNull}}
	out := []api.Value{
		{}, {Kind: -1}, {Kind: 7}, {Kind: 1 << 40},
		{Kind: api.VNull, N: 1}, {Kind: api.VText, N: 1}, {Kind: api.VList, N: 1}, {Kind: api.VObject, N: -1},
		{Kind: api.VBool, N: 2}, {Kind: api.VBool, N: -1},
		{Kind: api.VNull, S: "a"}, {Kind: api.VBool, S: "a"}, {Kind: api.VInt, S: "a"}, {Kind: api.VList, S: "a"}, {Kind: api.VObject, S: "a"},
		{Kind: api.VText, S: "\xff"}, {Kind: api.VText, S: "a\xed\xa0\x80"},
		{Kind: api.VNull, Kids: list}, {Kind: api.VBool, Kids: list}, {Kind: api.VInt, Kids: list}, {Kind: api.VText, Kids: list},
		{Kind: api.VNull, Keys: []string{"a"}}, {Kind: api.VBool, Keys: []string{"a"}}, {Kind: api.VInt, Keys: []string{""}}, {Kind: api.VText, Keys: []string{"a"}}, {Kind: api.VList, Keys: []string{"a"}, Kids: list},
		{Kind: api.VObject, Keys: []string{"a"}}, {Kind: api.VObject, Kids: list}, {Kind: api.VObject, Keys: []string{"a", "b"}, Kids: list}, {Kind: api.VObject, Keys: []string{"a"}, Kids: []api.Value{null, null}},
		{Kind: api.VObject, Keys: []string{"b", "a"}, Kids: []api.Value{null, null}}, {Kind: api.VObject, Keys: []string{"a", "a"}, Kids: []api.Value{null, null}}, {Kind: api.VObject, Keys: []string{"\xff"}, Kids: list},
		{Kind: api.VList, Kids: []api.Value{null, {}}}, {Kind: api.VObject, Keys: []string{"a"}, Kids: []api.Value{{}}},
		Nest(api.MaxDepth + 1), Wide(api.MaxNodes + 1),
	}
	return append(out, api.Value{Kind: api.VList, Kids: []api.Value{Wide(api.MaxNodes / 2), Wide(api.MaxNodes / 2)}})
}

// Name returns a short name that differs for each n.
func Name(n int) string {
	return "d" + strconv.Itoa(n)
}
