package snap_test

import (
	"bytes"
	"encoding/binary"
	"fmt"
	"math"
	"math/rand/v2"
	"reflect"
	"regexp"
	"slices"
	"strings"

	"foreman/api"
	"foreman/value"
)

// The chapter's words, said as plainly as can be. Of values it says no more than layer 8 does.

var (
	idForm   = regexp.MustCompile(`\A[!-~]{1,400}\z`)
	nameForm = regexp.MustCompile(`\A[a-z0-9_]{0,20}\z`)
)

func from(least, n, most int) bool { return least <= n && n <= most }

func isRight(s api.State) bool {
	c := s.Config
	ok := from(0, c.Quota, 400) && from(0, c.Depth, 12) && from(0, c.Width, 40) && from(0, c.Retry, 9) && from(0, c.Flows, 12)
	ok = ok && from(0, s.Flows, 12) && s.Token >= 0 && len(s.Nodes) <= 4800
	for _, n := range s.Nodes {
		ok = ok && isRightNode(n)
	}
	return ok
}

func isRightNode(n api.Node) bool {
	if !idForm.MatchString(n.ID) || !nameForm.MatchString(n.Name) || n.Kind > 2 || n.Stand > 6 || n.Token < 0 || !value.Right(n.Value) {
		return false
	}
	if len(n.After) > 21 {
		return false
	}
	for _, p := range n.After {
		if !from(0, p, 4799) {
			return false
		}
	}
	return from(0, n.Flow, 12) && from(-1, n.Owner, 4799) && from(-1, n.At, 999999) && from(0, n.Width, 40) && from(0, n.Quota, 400) && from(0, n.Fails, 10)
}

// num is a number's bytes, which layer 7 says just as the library does.
func num(n int64) []byte { return binary.AppendVarint(nil, n) }

func text(s string) []byte { return append(num(int64(len(s))), s...) }

// nums is the bytes of numbers, one behind the other.
func nums(l ...int) []byte {
	var b []byte
	for _, n := range l {
		b = append(b, num(int64(n))...)
	}
	return b
}

func saidOf(s api.State) []byte {
	c := s.Config
	b := nums(c.Quota, c.Depth, c.Width, c.Retry, c.Flows, s.Flows)
	b = append(b, num(s.Token)...)
	b = append(b, nums(len(s.Nodes))...)
	for _, n := range s.Nodes {
		b = append(b, saidOfNode(n)...)
	}
	return b
}

func saidOfNode(n api.Node) []byte {
	b := slices.Concat(text(n.ID), text(n.Name), nums(int(n.Kind), n.Flow, n.Owner, n.At))
	b = append(b, nums(len(n.After))...)
	b = append(b, nums(n.After...)...)
	b = append(b, nums(n.Width, n.Quota, int(n.Stand), n.Fails)...)
	b = append(b, num(n.Token)...)
	v, _ := value.Bytes(n.Value)
	return append(b, v...)
}

// form reads bytes as they come, right or not.
type form struct {
	b    []byte
	torn bool
}

func (f *form) long() int64 {
	n, k := binary.Varint(f.b)
	if k <= 0 {
		f.torn = true
		return 0
	}
	f.b = f.b[k:]
	return n
}

func (f *form) num() int { return int(f.long()) }

// few is a number that is asked to be from 0 to most here already, so that it can be counted to.
func (f *form) few(most int) int {
	n := f.num()
	f.torn = f.torn || !from(0, n, most)
	if f.torn {
		return 0
	}
	return n
}

func (f *form) text() string {
	n := f.few(len(f.b))
	if n > len(f.b) {
		f.torn = true
		return ""
	}
	s := string(f.b[:n])
	f.b = f.b[n:]
	return s
}

func (f *form) node() api.Node {
	n := api.Node{ID: f.text(), Name: f.text()}
	n.Kind = uint8(f.few(255))
	n.Flow, n.Owner, n.At = f.num(), f.num(), f.num()
	for k := f.few(1000); k > 0 && !f.torn; k-- {
		n.After = append(n.After, f.num())
	}
	n.Width, n.Quota = f.num(), f.num()
	n.Stand = uint8(f.few(255))
	n.Fails = f.num()
	n.Token = f.long()
	v, rest, e := value.Take(f.b)
	n.Value, f.b, f.torn = v, rest, f.torn || e != api.OK
	return n
}

// parsedOf is the state of a right form that b is the bytes of, if it is those of one.
func parsedOf(b []byte) (api.State, bool) {
	f := &form{b: b}
	var s api.State
	s.Config = api.Config{Quota: f.num(), Depth: f.num(), Width: f.num(), Retry: f.num(), Flows: f.num()}
	s.Flows = f.num()
	s.Token = f.long()
	for n := f.few(10000); n > 0 && !f.torn; n-- {
		s.Nodes = append(s.Nodes, f.node())
	}
	ok := !f.torn && len(f.b) == 0 && isRight(s) && bytes.Equal(saidOf(s), b)
	return s, ok
}

// plainValue is v with no list where there is one of none, in memory of its own.
func plainValue(v api.Value) api.Value {
	var l []api.Value
	for _, one := range v.L {
		l = append(l, plainValue(one))
	}
	v.L = l
	return v
}

// plain is s with no list where there is one of none, in memory of its own.
func plain(s api.State) api.State {
	var l []api.Node
	for _, n := range s.Nodes {
		n.After = append([]int(nil), n.After...)
		n.Value = plainValue(n.Value)
		l = append(l, n)
	}
	s.Nodes = l
	return s
}

func equal(a, b api.State) bool { return reflect.DeepEqual(plain(a), plain(b)) }

// brief tells a state, but not all of a long one.
func brief(s api.State) string {
	if len(s.Nodes) > 10 {
		s.Nodes = s.Nodes[:10]
	}
	t := strings.ReplaceAll(fmt.Sprintf("%#v", s), "api.", "")
	return t[:min(len(t), 800)]
}

func number(n int64) api.Value { return api.Value{N: n} }

func words(s string) api.Value { return api.Value{Kind: api.ValText, S: s} }

func list(l ...api.Value) api.Value { return api.Value{Kind: api.ValList, L: l} }

// rightValues are right ones: ordinary ones, and those at the limits.
func rightValues() []api.Value {
	deep := number(1)
	for range 5 {
		deep = list(deep)
	}
	much := list(slices.Repeat([]api.Value{list(number(1), words("a"), list(), number(-1))}, 39)...)
	return []api.Value{number(0), number(1), number(-1), number(math.MaxInt64), number(math.MinInt64), words(""), words("v"), words(strings.Repeat("\xff", 100)),
		list(), {Kind: api.ValList, L: []api.Value{}}, {L: []api.Value{}}, list(number(0)), list(number(1), list(words("a"), list())), deep, much, list(slices.Repeat([]api.Value{list()}, 40)...)}
}

// wrongValues are not right.
func wrongValues() []api.Value {
	deep := number(1)
	for range 6 {
		deep = list(deep)
	}
	much := list(slices.Repeat([]api.Value{list(number(1), words("a"), list(), number(-1))}, 40)...)
	l := []api.Value{{Kind: 3}, {Kind: 255}, {S: "a"}, {N: 1, S: "a"}, {L: []api.Value{{}}}, {Kind: 1, N: 1}, {Kind: 1, L: []api.Value{{}}}, {Kind: 2, N: 1}, {Kind: 2, S: "a"},
		words(strings.Repeat("a", 101)), list(slices.Repeat([]api.Value{list()}, 41)...), deep, much}
	for _, v := range l[:9] {
		l = append(l, list(v), list(number(1), list(v)))
	}
	return l
}

// nodeX is the node of the chapter's example.
func nodeX() api.Node { return api.Node{ID: "x", Owner: -1} }

// nodes are ordinary ones.
func nodes() []api.Node {
	return []api.Node{
		{ID: "0/a", Name: "a", Owner: -1, At: -1, Quota: 3, Stand: api.Holding, Value: number(7)},
		{ID: "0/a/m", Name: "m", Kind: api.KindMap, Owner: 0, At: -1, After: []int{0}, Width: 3, Stand: api.Holding, Value: list()},
		{ID: "0/a/m[0]", Name: "m", Kind: api.KindEach, Flow: 1, Owner: 1, After: []int{2, 0, 2}, Stand: api.Running, Fails: 2, Token: 9},
		{ID: "0/b", Name: "b", Flow: 2, Owner: -1, At: -1, After: []int{0, 5}, Quota: 7, Stand: api.Done, Value: list(words("v"), number(-1), list(number(0)))},
		{ID: "11/c_9", Name: "c_9", Flow: 11, Owner: 4, At: 31, Stand: api.Cancelled, Fails: 1},
	}
}

func ordinary() api.State {
	return api.State{Config: api.Config{Quota: 100, Depth: 6, Width: 12, Retry: 2, Flows: 11}, Flows: 3, Token: 17, Nodes: nodes()}
}

// great is a node with the greatest of all that it may have.
func great() api.Node {
	return api.Node{ID: strings.Repeat("~", 400), Name: strings.Repeat("z", 20), Kind: 2, Flow: 12, Owner: 4799, At: 999999, After: slices.Repeat([]int{4799}, 21),
		Width: 40, Quota: 400, Stand: 6, Fails: 10, Token: math.MaxInt64, Value: words(strings.Repeat("v", 100))}
}

func greatest() api.State {
	return api.State{Config: api.Config{Quota: 400, Depth: 12, Width: 40, Retry: 9, Flows: 12}, Flows: 12, Token: math.MaxInt64, Nodes: []api.Node{great(), great()}}
}

func least() api.State {
	return api.State{Nodes: []api.Node{{ID: "!", Owner: -1, At: -1}}}
}

// base are some states of a right form.
func base() []api.State {
	return []api.State{{}, {Nodes: []api.Node{nodeX()}}, ordinary(), least(), greatest(), {Token: 3, Nodes: []api.Node{nodeX(), great(), nodeX()}}}
}

// nodesOf is a state of so many nodes.
func nodesOf(many int) api.State {
	return api.State{Nodes: slices.Repeat([]api.Node{nodeX()}, many)}
}

// with is s, in memory of its own, with one thing done to it.
func with(s api.State, how func(s *api.State)) api.State {
	s = plain(s)
	how(&s)
	return s
}

// part is a number of a state, or of each of its nodes.
type part struct {
	name        string
	least, most int
	set         func(s *api.State, at, n int)
}

// ofState are the numbers of a state; at is not asked there.
func ofState() []part {
	return []part{
		{"Config.Quota", 0, 400, func(s *api.State, _, n int) { s.Config.Quota = n }},
		{"Config.Depth", 0, 12, func(s *api.State, _, n int) { s.Config.Depth = n }},
		{"Config.Width", 0, 40, func(s *api.State, _, n int) { s.Config.Width = n }},
		{"Config.Retry", 0, 9, func(s *api.State, _, n int) { s.Config.Retry = n }},
		{"Config.Flows", 0, 12, func(s *api.State, _, n int) { s.Config.Flows = n }},
		{"Flows", 0, 12, func(s *api.State, _, n int) { s.Flows = n }},
		{"Token", 0, math.MaxInt64, func(s *api.State, _, n int) { s.Token = int64(n) }},
	}
}

// ofNodes are the numbers of a node, but for those that are no greater than a byte.
func ofNodes() []part {
	l := []part{
		{"Flow", 0, 12, func(s *api.State, at, n int) { s.Nodes[at].Flow = n }},
		{"Owner", -1, 4799, func(s *api.State, at, n int) { s.Nodes[at].Owner = n }},
		{"At", -1, 999999, func(s *api.State, at, n int) { s.Nodes[at].At = n }},
		{"Width", 0, 40, func(s *api.State, at, n int) { s.Nodes[at].Width = n }},
		{"Quota", 0, 400, func(s *api.State, at, n int) { s.Nodes[at].Quota = n }},
		{"Fails", 0, 10, func(s *api.State, at, n int) { s.Nodes[at].Fails = n }},
		{"Token", 0, math.MaxInt64, func(s *api.State, at, n int) { s.Nodes[at].Token = int64(n) }},
	}
	for _, long := range []int{1, 2, 21} {
		for _, k := range []int{0, long / 2, long - 1} {
			l = append(l, part{fmt.Sprintf("After, of %d that at %d", long, k), 0, 4799, func(s *api.State, at, n int) {
				s.Nodes[at].After = make([]int, long)
				s.Nodes[at].After[k] = n
			}})
		}
	}
	return l
}

// bytesOfNodes are the numbers of a node that are no greater than a byte.
func bytesOfNodes() []part {
	return []part{
		{"Kind", 0, 2, func(s *api.State, at, n int) { s.Nodes[at].Kind = uint8(n) }},
		{"Stand", 0, 6, func(s *api.State, at, n int) { s.Nodes[at].Stand = uint8(n) }},
	}
}

// around are numbers within these bounds, and out of them: at each edge, on both sides, and far away.
func around(least, most int) []int {
	l := []int{least - 1, least, least + 1, most - 1, most, 0, -1, -2, -3, -64, -65, 1, 127, 128, 255, 256, 257, 1 << 16, 1<<16 + 1, 1 << 31, 1 << 32, 1<<32 + 1, -1 << 32, -1<<32 + 1, math.MaxInt64, math.MinInt64, math.MinInt64 + 1}
	if most < math.MaxInt64 {
		l = append(l, most+1, most+2, most*2, most+1<<32, least-1<<32)
	}
	return l
}

func rightIDs() []string {
	l := []string{"x", "0/a", "1/a/b", "12/m[3]/y", "!", "~", strings.Repeat("!", 400), strings.Repeat("~", 399), strings.Repeat("x", 21), strings.Repeat("x", 64), strings.Repeat("x", 128)}
	for c := 33; c <= 126; c++ {
		l = append(l, string(rune(c)))
	}
	return l
}

func wrongIDs() []string {
	l := []string{"", strings.Repeat("x", 401), strings.Repeat("x", 402), strings.Repeat("x", 1<<16), "é", "0/a b", "x\x00", " "}
	for c := range 256 {
		if c < 33 || c > 126 {
			l = append(l, string([]byte{byte(c)}), string([]byte{'x', byte(c)}))
		}
	}
	return l
}

func rightNames() []string {
	l := []string{"", "a", "z", "0", "9", "_", "a_1", strings.Repeat("z", 20), strings.Repeat("_", 19)}
	for c := range 256 {
		if c >= 'a' && c <= 'z' || c >= '0' && c <= '9' || c == '_' {
			l = append(l, string([]byte{byte(c)}), string([]byte{'a', byte(c)}))
		}
	}
	return l
}

func wrongNames() []string {
	l := []string{strings.Repeat("z", 21), strings.Repeat("a", 22), strings.Repeat("a", 400), strings.Repeat("a", 1<<16), "A", "a b", "a/b", "é", "a\x00", " "}
	for c := range 256 {
		if !nameForm.MatchString(string([]byte{byte(c)})) {
			l = append(l, string([]byte{byte(c)}), string([]byte{'a', byte(c)}))
		}
	}
	return l
}

// everywhere is s with one thing done to each of its nodes in turn.
func everywhere(s api.State, how func(n *api.Node)) []api.State {
	var l []api.State
	for at := range s.Nodes {
		l = append(l, with(s, func(s *api.State) { how(&s.Nodes[at]) }))
	}
	return l
}

// changed are states with each number at its edges and beyond, and with ids, names, places and values that may be, or not.
func changed() []api.State {
	var l []api.State
	some := []api.State{{Nodes: []api.Node{nodeX()}}, ordinary(), greatest()}
	for _, s := range some {
		for _, p := range ofState() {
			for _, n := range around(p.least, p.most) {
				l = append(l, with(s, func(s *api.State) { p.set(s, 0, n) }))
			}
		}
		for at := range s.Nodes {
			for _, p := range ofNodes() {
				for _, n := range around(p.least, p.most) {
					l = append(l, with(s, func(s *api.State) { p.set(s, at, n) }))
				}
			}
		}
	}
	for _, p := range bytesOfNodes() {
		for n := range 256 {
			for at := range nodes() {
				l = append(l, with(ordinary(), func(s *api.State) { p.set(s, at, n) }))
			}
		}
	}
	return append(l, changedTexts()...)
}

func changedTexts() []api.State {
	var l []api.State
	for _, id := range append(rightIDs(), wrongIDs()...) {
		l = append(l, everywhere(ordinary(), func(n *api.Node) { n.ID = id })...)
	}
	for _, name := range append(rightNames(), wrongNames()...) {
		l = append(l, everywhere(ordinary(), func(n *api.Node) { n.Name = name })...)
	}
	for _, v := range append(rightValues(), wrongValues()...) {
		l = append(l, everywhere(ordinary(), func(n *api.Node) { n.Value = v })...)
	}
	for long := range 60 {
		l = append(l, everywhere(ordinary(), func(n *api.Node) { n.After = make([]int, long) })...)
		l = append(l, everywhere(ordinary(), func(n *api.Node) { n.After = slices.Repeat([]int{4799}, long) })...)
	}
	for _, bad := range []int{-1, 4800} {
		for at := range 21 {
			l = append(l, everywhere(ordinary(), func(n *api.Node) {
				n.After = make([]int, 21)
				n.After[at] = bad
			})...)
		}
	}
	return l
}

// rights are states of a right form: ordinary ones, those at the limits, and drawn ones.
func rights() []api.State {
	l := base()
	for _, s := range changed() {
		if isRight(s) {
			l = append(l, s)
		}
	}
	r := chance()
	for range 300 {
		l = append(l, drawn(r))
	}
	return l
}

// wrongs are states of no right form: most for one reason alone.
func wrongs() []api.State {
	l := []api.State{{Nodes: make([]api.Node, 1)}, {Nodes: []api.Node{nodeX(), {}}}, {Config: api.Config{Quota: -1, Depth: -1, Width: -1, Retry: -1, Flows: -1}}}
	for _, s := range changed() {
		if !isRight(s) {
			l = append(l, s)
		}
	}
	return l
}

// likes are states that differ from s in one part alone.
func likes(s api.State) []api.State {
	var l []api.State
	put := func(how func(s *api.State)) {
		if c := with(s, how); !equal(c, s) {
			l = append(l, c)
		}
	}
	for _, p := range ofState() {
		for _, n := range []int{0, 1, 2, -1, 1 << 32} {
			put(func(s *api.State) { p.set(s, 0, n) })
		}
	}
	put(func(s *api.State) { s.Config.Quota, s.Config.Depth = s.Config.Depth, s.Config.Quota })
	put(func(s *api.State) { s.Config.Flows, s.Flows = s.Flows, s.Config.Flows })
	put(func(s *api.State) { s.Nodes = append(s.Nodes, nodeX()) })
	put(func(s *api.State) { s.Nodes = append(s.Nodes, api.Node{}) })
	put(func(s *api.State) { s.Nodes = slices.Insert(s.Nodes, 0, nodeX()) })
	put(func(s *api.State) { slices.Reverse(s.Nodes) })
	put(func(s *api.State) { s.Nodes = nil })
	for at := range s.Nodes {
		put(func(s *api.State) { s.Nodes = slices.Delete(s.Nodes, at, at+1) })
		for _, how := range toNodes(s.Nodes[at]) {
			put(func(s *api.State) { how(&s.Nodes[at]) })
		}
	}
	return l
}

// toNodes are things that may be done to a node like n, of which each changes one part alone.
func toNodes(n api.Node) []func(n *api.Node) {
	v := n.Value
	l := []func(n *api.Node){
		func(n *api.Node) { n.ID += "x" },
		func(n *api.Node) { n.ID = "y" },
		func(n *api.Node) { n.ID = strings.ToUpper(n.ID) },
		func(n *api.Node) { n.Name += "a" },
		func(n *api.Node) { n.Name = "" },
		func(n *api.Node) { n.Name = "y" },
		func(n *api.Node) { n.After = append(n.After, 0) },
		func(n *api.Node) { n.After = append(n.After, -1) },
		func(n *api.Node) { n.After = n.After[min(1, len(n.After)):] },
		func(n *api.Node) { slices.Reverse(n.After) },
	}
	for _, k := range []int{1, 2, 3, 64, 128} {
		l = append(l, func(n *api.Node) { n.Kind ^= uint8(k) }, func(n *api.Node) { n.Stand ^= uint8(k) })
	}
	for _, k := range []int{1, -1, 7, 1 << 32, math.MinInt64} {
		l = append(l, func(n *api.Node) { n.Flow += k }, func(n *api.Node) { n.Owner += k }, func(n *api.Node) { n.At += k }, func(n *api.Node) { n.Width += k },
			func(n *api.Node) { n.Quota += k }, func(n *api.Node) { n.Fails += k }, func(n *api.Node) { n.Token += int64(k) })
		for i := range n.After {
			l = append(l, func(n *api.Node) { n.After[i] += k })
		}
	}
	for _, w := range []api.Value{{}, {N: 1}, {Kind: 1}, {S: "a"}, {Kind: 2}, list(v), {Kind: v.Kind ^ 1, N: v.N, S: v.S, L: v.L}, {Kind: v.Kind, N: v.N + 1, S: v.S, L: v.L},
		{Kind: v.Kind, N: v.N, S: v.S + "a", L: v.L}, {Kind: v.Kind, N: v.N, S: v.S, L: append(plainValue(v).L, number(0))}, {Kind: v.Kind, N: v.N, S: v.S, L: v.L[min(1, len(v.L)):]}} {
		l = append(l, func(n *api.Node) { n.Value = w })
	}
	return l
}

// chance is the same in each run.
func chance() *rand.Rand { return rand.New(rand.NewPCG(11, 11)) }

// drawnOf draws a number from least to most: now and then one of the two.
func drawnOf(r *rand.Rand, least, most int) int {
	switch r.IntN(6) {
	case 0:
		return least
	case 1:
		return most
	}
	return least + r.IntN(most-least+1)
}

// drawn is a state of a right form.
func drawn(r *rand.Rand) api.State {
	s := api.State{
		Config: api.Config{Quota: drawnOf(r, 0, 400), Depth: drawnOf(r, 0, 12), Width: drawnOf(r, 0, 40), Retry: drawnOf(r, 0, 9), Flows: drawnOf(r, 0, 12)},
		Flows:  drawnOf(r, 0, 12), Token: int64(r.Uint64() >> (1 + r.IntN(63)))}
	for range r.IntN(6) {
		s.Nodes = append(s.Nodes, drawnNode(r))
	}
	return s
}

func drawnNode(r *rand.Rand) api.Node {
	ids, names, values := rightIDs(), rightNames(), rightValues()
	n := api.Node{ID: ids[r.IntN(len(ids))], Name: names[r.IntN(len(names))], Kind: uint8(r.IntN(3)), Flow: drawnOf(r, 0, 12), Owner: drawnOf(r, -1, 4799), At: drawnOf(r, -1, 999999),
		Width: drawnOf(r, 0, 40), Quota: drawnOf(r, 0, 400), Stand: uint8(r.IntN(7)), Fails: drawnOf(r, 0, 10), Token: int64(r.Uint64() >> (1 + r.IntN(63))), Value: values[r.IntN(len(values))]}
	for range r.IntN(22) {
		n.After = append(n.After, drawnOf(r, 0, 4799))
	}
	return n
}

// small is a state of a right form that has few bytes.
func small(r *rand.Rand) api.State {
	var s api.State
	if r.IntN(2) == 0 {
		s = api.State{Config: api.Config{Quota: r.IntN(401), Depth: r.IntN(3), Retry: r.IntN(2), Flows: r.IntN(2)}, Flows: r.IntN(3), Token: int64(r.IntN(100))}
	}
	for range r.IntN(3) {
		n := api.Node{ID: []string{"x", "0/a", "~"}[r.IntN(3)], Name: []string{"", "a", "b_2"}[r.IntN(3)], Kind: uint8(r.IntN(3)), Owner: r.IntN(3) - 1, At: r.IntN(3) - 1, Stand: uint8(r.IntN(7)), Fails: r.IntN(3), Token: int64(r.IntN(70)),
			Value: []api.Value{number(0), number(-300), words("ab"), list(), list(number(1), list(words("")))}[r.IntN(5)]}
		for range r.IntN(3) {
			n.After = append(n.After, r.IntN(100))
		}
		s.Nodes = append(s.Nodes, n)
	}
	return s
}
