package value_test

import (
	"encoding/binary"
	"fmt"
	"math"
	"math/rand/v2"
	"slices"
	"strings"

	"foreman/api"
)

// The chapter's words, said as plainly as can be.

func number(n int64) api.Value { return api.Value{Kind: api.ValNumber, N: n} }

func text(s string) api.Value { return api.Value{Kind: api.ValText, S: s} }

func list(l ...api.Value) api.Value { return api.Value{Kind: api.ValList, L: l} }

// listOf is a list of so many values that are v.
func listOf(n int, v api.Value) api.Value { return list(slices.Repeat([]api.Value{v}, n)...) }

// nested is v within so many lists.
func nested(v api.Value, lists int) api.Value {
	for range lists {
		v = list(v)
	}
	return v
}

// ofParts is a value of so many parts, 3 deep or less.
func ofParts(parts int) api.Value {
	if parts == 1 {
		return number(7)
	}
	var l []api.Value
	for left := parts - 1; left > 0; {
		n := min(left, 41)
		l = append(l, listOf(n-1, text("a")))
		left -= n
	}
	return list(l...)
}

func depthOf(v api.Value) int {
	deep := 0
	for _, one := range v.L {
		deep = max(deep, depthOf(one))
	}
	return deep + 1
}

func partsOf(v api.Value) int {
	n := 1
	for _, one := range v.L {
		n += partsOf(one)
	}
	return n
}

// ofItsKind is whether v, and all that is in it, has what is of its kind alone, and no more than may be.
func ofItsKind(v api.Value) bool {
	all := true
	for _, one := range v.L {
		all = all && ofItsKind(one)
	}
	noNumber, noText, noList := v.N == 0, v.S == "", len(v.L) == 0
	switch v.Kind {
	case 0:
		return noText && noList
	case 1:
		return noNumber && noList && len(v.S) <= 100
	case 2:
		return noNumber && noText && len(v.L) <= 40 && all
	}
	return false
}

func isRight(v api.Value) bool { return ofItsKind(v) && depthOf(v) <= 6 && partsOf(v) <= 200 }

// equal is whether two values are the same; the library's own means would hold a list of none to be another than no list.
func equal(a, b api.Value) bool {
	if a.Kind != b.Kind || a.N != b.N || a.S != b.S || len(a.L) != len(b.L) {
		return false
	}
	for i := range a.L {
		if !equal(a.L[i], b.L[i]) {
			return false
		}
	}
	return true
}

// cloned is v in memory of its own.
func cloned(v api.Value) api.Value {
	c := v
	c.L = slices.Clone(v.L)
	for i := range c.L {
		c.L[i] = cloned(c.L[i])
	}
	return c
}

// num is a number's bytes, which layer 7 says just as the library does.
func num(n int64) []byte { return binary.AppendVarint(nil, n) }

func saidOf(v api.Value) []byte {
	b := num(int64(v.Kind))
	switch v.Kind {
	case 0:
		return append(b, num(v.N)...)
	case 1:
		return append(append(b, num(int64(len(v.S)))...), v.S...)
	}
	b = append(b, num(int64(len(v.L)))...)
	for _, one := range v.L {
		b = append(b, saidOf(one)...)
	}
	return b
}

func shownOf(v api.Value) string {
	switch v.Kind {
	case 0:
		return fmt.Sprint(v.N)
	case 1:
		s := `"`
		for _, c := range []byte(v.S) {
			if c < 33 || c > 126 || strings.ContainsRune(`"%`, rune(c)) {
				s += fmt.Sprintf("%%%02X", c)
			} else {
				s += string(rune(c))
			}
		}
		return s + `"`
	}
	var l []string
	for _, one := range v.L {
		l = append(l, shownOf(one))
	}
	return "[" + strings.Join(l, ",") + "]"
}

// numOf is the number that b begins with, and how many bytes it has; 0, if there is none.
func numOf(b []byte) (int64, int) {
	n, k := binary.Varint(b)
	if k <= 0 || len(num(n)) != k {
		return 0, 0
	}
	return n, k
}

// formOf is a value of any depth, and of any number of parts, that b begins with, and how many bytes it has; 0, if there is none.
func formOf(b []byte, deep int) (api.Value, int) {
	kind, k := numOf(b)
	if k == 0 || kind < 0 || kind > 2 || deep > 100 {
		return api.Value{}, 0
	}
	n, m := numOf(b[k:])
	end := k + m
	if m == 0 {
		return api.Value{}, 0
	}
	if kind == 0 {
		return number(n), end
	}
	if n < 0 || n > 100 {
		return api.Value{}, 0
	}
	if kind == 1 {
		if int(n) > len(b)-end {
			return api.Value{}, 0
		}
		return text(string(b[end : end+int(n)])), end + int(n)
	}
	v := list()
	for range n {
		one, k := formOf(b[end:], deep+1)
		if k == 0 {
			return api.Value{}, 0
		}
		v.L = append(v.L, one)
		end += k
	}
	return v, end
}

// takenOf is the right value that b begins with, and how many bytes it has; 0, if there is none.
func takenOf(b []byte) (api.Value, int) {
	v, k := formOf(b, 1)
	if k == 0 || !isRight(v) {
		return api.Value{}, 0
	}
	return v, k
}

// chance is the same in each run.
func chance() *rand.Rand { return rand.New(rand.NewPCG(8, 8)) }

// drawn is some value that is mostly right, at most so deep, of up to so many values a list; foul is how often, of a thousand, something in it is not right.
func drawn(r *rand.Rand, deep, wide, foul int) api.Value {
	var v api.Value
	switch kind := r.IntN(4); {
	case kind == 0:
		v = number(int64(r.Uint64()) >> r.IntN(64))
	case kind == 1:
		b := make([]byte, r.IntN(8))
		for i := range b {
			b[i] = byte(r.Uint32())
		}
		v = text(string(b))
	default:
		v = list()
		for range r.IntN(wide + 1) {
			if deep > 1 {
				v.L = append(v.L, drawn(r, deep-1, wide, foul))
			}
		}
	}
	if r.IntN(1000) < foul {
		return fouled(r, v)
	}
	return v
}

// fouled is v with something that may not be right.
func fouled(r *rand.Rand, v api.Value) api.Value {
	switch r.IntN(6) {
	case 0:
		v.Kind = uint8(r.IntN(5))
	case 1:
		v.Kind = uint8(r.IntN(256))
	case 2:
		v.N = int64(r.IntN(3)) - 1
	case 3:
		v.S = strings.Repeat("x", r.IntN(3)*51)
	case 4:
		v.L = append(v.L, number(1))
	case 5:
		v.L = append(v.L, list())
	}
	return v
}

// rights are right values: ordinary ones, those at the limits, and drawn ones.
func rights() []api.Value {
	all := make([]byte, 100)
	for i := range all {
		all[i] = byte(i)
	}
	l := []api.Value{
		number(0), number(1), number(-1), number(63), number(64), number(-64), number(-65), number(math.MaxInt64), number(math.MinInt64),
		text(""), text("a"), text("a%"), text("\x00"), text("\xff\x80"), text("\u00e9\u4e16"), text(`"`), text(string(all)), text(strings.Repeat("z", 99)), text(strings.Repeat("\xff", 100)),
		list(), {Kind: api.ValList, L: []api.Value{}}, list(number(-1), list()), list(list(), list()), list(text(""), text("")), list(number(0)), list(number(0), number(0)),
		listOf(39, number(5)), listOf(40, number(5)), listOf(40, list()), listOf(40, text(strings.Repeat("q", 100))),
		nested(number(3), 5), nested(text("d"), 5), nested(list(), 5), nested(listOf(40, number(2)), 4), list(nested(number(1), 4), number(1), nested(list(), 4)),
		ofParts(2), ofParts(41), ofParts(42), ofParts(199), ofParts(200), nested(ofParts(197), 3), list(number(1), ofParts(198)), list(ofParts(198), number(1)),
	}
	r := chance()
	for len(l) < 2000 {
		if v := drawn(r, 6, 1+r.IntN(6), 0); isRight(v) {
			l = append(l, v)
		}
	}
	return l
}

// wrongs are values that are not right, up to 60 deep: most for one reason alone, by themselves and within lists; and drawn ones.
func wrongs() []api.Value {
	some := []api.Value{
		{Kind: 3}, {Kind: 4}, {Kind: 128}, {Kind: 255}, {Kind: 3, N: 1}, {Kind: 3, S: "a"}, {Kind: 3, L: []api.Value{{}}}, {Kind: 255, L: []api.Value{list()}},
		{Kind: 0, S: "a"}, {Kind: 0, S: "\x00"}, {Kind: 0, N: 5, S: "5"}, {Kind: 0, L: []api.Value{{}}}, {Kind: 0, N: 1, L: []api.Value{list()}}, {Kind: 0, S: "a", L: []api.Value{{}}},
		{Kind: 1, N: 1}, {Kind: 1, N: -1, S: "a"}, {Kind: 1, N: math.MinInt64, S: "a"}, {Kind: 1, L: []api.Value{{}}}, {Kind: 1, S: "a", L: []api.Value{text("b"), list(text("c"))}},
		{Kind: 2, N: 1}, {Kind: 2, N: -1}, {Kind: 2, S: "a"}, {Kind: 2, N: 1, L: []api.Value{{}}}, {Kind: 2, S: "\x00", L: []api.Value{{}}},
		text(strings.Repeat("z", 101)), text(strings.Repeat("\x00", 101)), text(strings.Repeat("z", 1000)), listOf(41, number(0)), listOf(41, list()), listOf(100, number(0)),
	}
	l := slices.Clone(some)
	for _, v := range some {
		l = append(l, list(v), list(number(1), v), list(v, text("a")), list(list(), list(v), list()), nested(v, 4), nested(v, 57))
	}
	l = append(l, nested(number(3), 6), nested(text("d"), 6), nested(list(), 6), list(number(1), nested(list(), 5)), list(nested(text(""), 5), number(1)),
		ofParts(201), nested(ofParts(199), 2), list(number(1), ofParts(199)), list(ofParts(199), number(1)), ofParts(202), ofParts(1000), listOf(40, listOf(5, number(1))), listOf(40, listOf(40, number(1))))
	for lists := 7; lists < 60; lists++ {
		l = append(l, nested(number(1), lists), nested(list(), lists))
	}
	r := chance()
	for len(l) < 2000 {
		if v := drawn(r, 1+r.IntN(8), 1+r.IntN(5), 200); !isRight(v) {
			l = append(l, v)
		}
	}
	return l
}
