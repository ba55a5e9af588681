package frag_test

import (
	"bytes"
	"encoding/binary"
	"fmt"
	"math"
	"math/rand/v2"
	"reflect"
	"regexp"
	"slices"
	"strings"

	"foreman/api"
)

// The chapter's words, said as plainly as can be.

var nameForm = regexp.MustCompile(`\A[a-z0-9_]{1,20}\z`)

func isName(s string) bool { return nameForm.MatchString(s) }

func isRightItem(x api.Item) bool {
	ok := isName(x.Name) && len(x.After) <= 20 && x.Quota >= 0 && x.Quota <= 400
	for _, s := range x.After {
		ok = ok && isName(s)
	}
	if x.Kind == 0 {
		return ok && x.Over == "" && x.Width == 0
	}
	return ok && x.Kind == 1 && isName(x.Over) && x.Width >= 0 && x.Width <= 40
}

func isRight(l []api.Item) bool {
	ok := len(l) <= 40
	for _, x := range l {
		ok = ok && isRightItem(x)
	}
	return ok
}

// plain is l with no list where there is one of none, in memory of its own.
func plain(l []api.Item) []api.Item {
	var c []api.Item
	for _, x := range l {
		x.After = append([]string(nil), x.After...)
		c = append(c, x)
	}
	return c
}

func equal(a, b []api.Item) bool { return reflect.DeepEqual(plain(a), plain(b)) }

// num is a number's bytes, which layer 7 says just as the library does.
func num(n int64) []byte { return binary.AppendVarint(nil, n) }

func text(s string) []byte { return append(num(int64(len(s))), s...) }

func saidOf(l []api.Item) []byte {
	b := num(int64(len(l)))
	for _, x := range l {
		b = append(b, text(x.Name)...)
		b = append(b, num(int64(x.Kind))...)
		b = append(b, num(int64(len(x.After)))...)
		for _, s := range x.After {
			b = append(b, text(s)...)
		}
		b = append(b, num(int64(x.Quota))...)
		if x.Kind == 1 {
			b = append(b, text(x.Over)...)
			b = append(b, num(int64(x.Width))...)
		}
	}
	return b
}

// form reads bytes as they come, right or not.
type form struct {
	b    []byte
	at   int
	torn bool
}

func (f *form) num() int64 {
	n, k := binary.Varint(f.b[f.at:])
	if k <= 0 {
		f.torn = true
		return 0
	}
	f.at += k
	return n
}

// long is a number of things of a byte or more that may be there.
func (f *form) long() int {
	n := f.num()
	if n < 0 || n > int64(len(f.b)-f.at) {
		f.torn = true
		return 0
	}
	return int(n)
}

func (f *form) text() string {
	n := f.long()
	f.at += n
	return string(f.b[f.at-n : f.at])
}

func (f *form) items() []api.Item {
	var l []api.Item
	for n := f.long(); n > 0 && !f.torn; n-- {
		x := api.Item{Name: f.text(), Kind: uint8(f.num())}
		for n := f.long(); n > 0 && !f.torn; n-- {
			x.After = append(x.After, f.text())
		}
		x.Quota = int(f.num())
		if x.Kind == 1 {
			x.Over, x.Width = f.text(), int(f.num())
		}
		l = append(l, x)
	}
	return l
}

// takenOf is the fragment of a right form that b begins with, and how many bytes it has; 0, if there is none.
func takenOf(b []byte) ([]api.Item, int) {
	f := &form{b: b}
	l := f.items()
	if f.torn || !isRight(l) || !bytes.Equal(saidOf(l), b[:f.at]) {
		return nil, 0
	}
	return l, f.at
}

// brief tells a fragment, but not all of a long one.
func brief(l []api.Item) string {
	s := strings.ReplaceAll(fmt.Sprintf("%#v", l), "api.", "")
	return s[:min(len(s), 400)]
}

func task(name string, after ...string) api.Item { return api.Item{Name: name, After: after} }

func mapOver(name, over string, width int, after ...string) api.Item {
	return api.Item{Name: name, Kind: api.KindMap, Over: over, Width: width, After: after}
}

func withQuota(x api.Item, quota int) api.Item {
	x.Quota = quota
	return x
}

// names are so many of the same name.
func names(n int, name string) []string { return slices.Repeat([]string{name}, n) }

// several are so many names that are each another one.
func several(n int) []string {
	var l []string
	for i := range n {
		l = append(l, fmt.Sprintf("n_%d", i))
	}
	return l
}

// rightNames are names: of each byte that may be, and of 1 to 20 bytes.
func rightNames() []string {
	l := []string{"ab", "0", "00", "_", "__", "a_9", "0_z"}
	for _, c := range "abcdefghijklmnopqrstuvwxyz0123456789_" {
		l = append(l, string(c), "x"+string(c), strings.Repeat(string(c), 20))
	}
	for n := 1; n <= 20; n++ {
		l = append(l, strings.Repeat("n", n))
	}
	return l
}

// wrongNames are none: of no byte, of more than 20, and of each byte that may not be, at the beginning, within, and at the end.
func wrongNames() []string {
	l := []string{"", strings.Repeat("a", 21), strings.Repeat("_", 22), strings.Repeat("a", 256+5), strings.Repeat("z", 1000), "é", "aé", "\u4e16", "a b", "A", "a-b", "a/b", "a[0]", "a\n"}
	for c := range 256 {
		if s := string([]byte{byte(c)}); !isName(s) {
			l = append(l, s, s+"a", "a"+s, "a"+s+"a", strings.Repeat("a", 19)+s)
		}
	}
	return l
}

// rightItems are items of a right form: ordinary ones, and those at the limits.
func rightItems() []api.Item {
	l := []api.Item{task("a"), task("b", "a"), {Name: "a", After: []string{}}, task("a", "a", "a"), task("c", "b", "a"), mapOver("m", "a", 3, "b"), mapOver("m", "m", 0), mapOver("a", "a", 40, "a")}
	for _, s := range rightNames() {
		l = append(l, task(s), task("a", s), task("a", "b", s), mapOver(s, "a", 1), mapOver("m", s, 2), mapOver("m", "a", 2, s))
	}
	for n := range 21 {
		l = append(l, task("a", several(n)...), mapOver("m", "a", n, several(n)...), withQuota(task("a", names(n, strings.Repeat("z", 20))...), n))
	}
	for n := range 401 {
		l = append(l, withQuota(task("a"), n), withQuota(mapOver("m", "a", n/10), n))
	}
	for n := range 41 {
		l = append(l, mapOver("m", "a", n))
	}
	return l
}

// farNumbers may be of nothing; with some their lowest bits may.
func farNumbers() []int {
	return []int{-1, -2, -40, -64, -400, 401, 402, 512, 1000, 1 << 8, 1<<16 + 1, 1 << 32, 1<<32 + 3, math.MaxInt32, math.MinInt32, math.MaxInt, math.MinInt, math.MinInt + 1}
}

// wrongItems are items of no right form, most for one reason alone.
func wrongItems() []api.Item {
	var l []api.Item
	for _, s := range wrongNames() {
		l = append(l, task(s), mapOver(s, "a", 1), task("a", s), task("a", "b", s), task("a", s, "b"), mapOver("m", "a", 1, s), mapOver("m", s, 1))
		if s != "" { // an empty one is not over anything
			l = append(l, api.Item{Name: "a", Over: s})
		}
	}
	for kind := 2; kind < 256; kind++ {
		l = append(l, api.Item{Name: "a", Kind: uint8(kind)}, api.Item{Name: "a", Kind: uint8(kind), Over: "b"}, api.Item{Name: "a", Kind: uint8(kind), Over: "b", Width: 3})
	}
	for n := 21; n < 60; n++ {
		l = append(l, task("a", several(n)...), mapOver("m", "a", 1, names(n, "b")...))
	}
	for _, at := range []int{0, 1, 10, 18, 19} {
		after := several(20)
		after[at] = "A"
		l = append(l, task("a", after...), mapOver("m", "a", 1, after...))
	}
	for _, n := range farNumbers() {
		if n != 256 {
			l = append(l, withQuota(task("a"), n), withQuota(mapOver("m", "a", 1), n))
		}
		l = append(l, mapOver("m", "a", n), api.Item{Name: "a", Width: n})
	}
	l = append(l, mapOver("m", "a", 41), mapOver("m", "a", 42), mapOver("m", "a", 400), mapOver("m", "", 0), mapOver("m", "", 3))
	for width := 1; width <= 41; width++ {
		l = append(l, api.Item{Name: "a", Width: width})
	}
	return append(l, api.Item{}, api.Item{Name: "a", Over: "b"}, api.Item{Name: "a", Over: "a", Width: 3}, api.Item{Over: "a", Kind: 1, After: []string{""}, Quota: -1, Width: -1})
}

// chance is the same in each run.
func chance() *rand.Rand { return rand.New(rand.NewPCG(9, 9)) }

// drawn are so many items of a right form.
func drawn(r *rand.Rand, n int) []api.Item {
	some := append(rightNames(), "a", "b", "c", "d")
	name := func() string { return some[r.IntN(len(some))] }
	var l []api.Item
	for range n {
		x := task(name())
		for range max(0, r.IntN(30)-9) {
			x.After = append(x.After, name())
		}
		x.Quota = max(0, r.IntN(800)-399)
		if r.IntN(2) == 0 {
			x.Kind, x.Over, x.Width = api.KindMap, name(), r.IntN(41)
		}
		l = append(l, x)
	}
	return l
}

// greatest is a fragment of which all is as long as may be.
func greatest() []api.Item {
	long := strings.Repeat("z", 20)
	return slices.Repeat([]api.Item{withQuota(mapOver(long, long, 40, names(20, long)...), 400)}, 40)
}

// rights are fragments of a right form: ordinary ones, those at the limits, and drawn ones.
func rights() [][]api.Item {
	l := [][]api.Item{nil, {}, {task("a"), task("a")}, {task("a"), task("b", "a")}, {task("a"), mapOver("m", "a", 3), task("s", "m")}, greatest()}
	all := rightItems()
	for i, x := range all {
		l = append(l, []api.Item{x})
		if i%5 == 0 {
			l = append(l, []api.Item{task("first"), x}, []api.Item{x, mapOver("last", "a", 2)})
		}
	}
	for n := range 41 {
		l = append(l, slices.Repeat([]api.Item{task("a")}, n), all[:n], all[len(all)-n:])
	}
	r := chance()
	for range 200 {
		l = append(l, drawn(r, 1+r.IntN(4)))
	}
	for n := range 41 {
		l = append(l, drawn(r, n))
	}
	return l
}

// wrongs are fragments of no right form: most have one item that is not right, wherever it stands, or one too many.
func wrongs() [][]api.Item {
	var l [][]api.Item
	all := wrongItems()
	for i, x := range all {
		l = append(l, []api.Item{x})
		if i%5 == 0 {
			l = append(l, []api.Item{task("first"), x}, []api.Item{x, mapOver("last", "a", 2)})
		}
	}
	r := chance()
	for n := 1; n <= 40; n++ {
		for _, at := range []int{0, n / 2, n - 1} {
			one := drawn(r, n)
			one[at] = all[r.IntN(len(all))]
			l = append(l, one)
		}
	}
	for at := range 40 {
		one := drawn(r, 40)
		one[at] = all[r.IntN(len(all))]
		l = append(l, one)
	}
	for n := 41; n < 60; n++ {
		l = append(l, slices.Repeat([]api.Item{task("a")}, n), slices.Repeat([]api.Item{mapOver("m", "a", 1)}, n), drawn(r, n))
	}
	return append(l, drawn(r, 400), all)
}

// likes are fragments that differ from l in one part alone.
func likes(l []api.Item) [][]api.Item {
	all := [][]api.Item{append(plain(l), task("a")), append(plain(l), api.Item{})}
	change := func(i int, how func(x *api.Item)) {
		c := plain(l)
		how(&c[i])
		all = append(all, c)
	}
	for i, x := range l {
		all = append(all, slices.Delete(plain(l), i, i+1), slices.Insert(plain(l), i, task("a")))
		change(i, func(x *api.Item) { x.Name += "a" })
		change(i, func(x *api.Item) { x.Name = turned(x.Name) })
		change(i, func(x *api.Item) { x.Kind ^= 1 })
		change(i, func(x *api.Item) { x.Kind ^= 128 })
		change(i, func(x *api.Item) { x.Over += "a" })
		change(i, func(x *api.Item) { x.Over = turned(x.Over) })
		change(i, func(x *api.Item) { x.Width++ })
		change(i, func(x *api.Item) { x.Width ^= 1 << 32 })
		change(i, func(x *api.Item) { x.Quota++ })
		change(i, func(x *api.Item) { x.Quota ^= 1 << 32 })
		change(i, func(x *api.Item) { x.After = append(x.After, "a") })
		change(i, func(x *api.Item) { x.After = append(x.After, "") })
		for k := range x.After {
			change(i, func(x *api.Item) { x.After = slices.Delete(x.After, k, k+1) })
			change(i, func(x *api.Item) { x.After[k] = turned(x.After[k]) })
			change(i, func(x *api.Item) { x.After[0], x.After[k] = x.After[k], x.After[0] })
		}
	}
	for i := range l {
		for k := range i {
			c := plain(l)
			c[i], c[k] = c[k], c[i]
			all = append(all, c)
		}
	}
	return slices.DeleteFunc(all, func(c []api.Item) bool { return equal(c, l) })
}

// turned is another text, of the same length where there is a last byte.
func turned(s string) string {
	if s == "" {
		return "a"
	}
	last := byte('a')
	if s[len(s)-1] == last {
		last = 'b'
	}
	return s[:len(s)-1] + string(last)
}
