package op_test

import (
	"bytes"
	"encoding/binary"
	"fmt"
	"math"
	"math/rand/v2"
	"reflect"
	"regexp"
	"slices"
	"strings"

	"foreman/api"
	"foreman/frag"
	"foreman/value"
)

// The chapter's words, said as plainly as can be. Of values and fragments it says no more than layers 8 and 9 do.

var idForm = regexp.MustCompile(`\A[!-~]+\z`)

func isID(s string) bool { return len(s) <= 400 && idForm.MatchString(s) }

func isRight(o api.Op) bool {
	id, token := isID(o.ID), o.Token > 0
	val, items := value.Right(o.Value), frag.Right(o.Frag)
	noID, noToken, noItems, noQuota := o.ID == "", o.Token == 0, len(o.Frag) == 0, o.Quota == 0
	noValue := o.Value.Kind == 0 && o.Value.N == 0 && o.Value.S == "" && len(o.Value.L) == 0
	switch o.What {
	case 1:
		return items && o.Quota >= 0 && o.Quota <= 400 && noID && noToken && noValue
	case 2, 5:
		return id && noToken && noValue && noItems && noQuota
	case 3:
		return id && token && val && items && noQuota
	case 4:
		return id && token && noValue && noItems && noQuota
	}
	return false
}

// num is a number's bytes, which layer 7 says just as the library does.
func num(n int64) []byte { return binary.AppendVarint(nil, n) }

func text(s string) []byte { return append(num(int64(len(s))), s...) }

func valueOf(v api.Value) []byte {
	b, _ := value.Bytes(v)
	return b
}

func itemsOf(l []api.Item) []byte {
	b, _ := frag.Bytes(l)
	return b
}

func saidOf(o api.Op) []byte {
	what := num(int64(o.What))
	switch o.What {
	case 1:
		return slices.Concat(what, itemsOf(o.Frag), num(int64(o.Quota)))
	case 3:
		return slices.Concat(what, text(o.ID), num(o.Token), valueOf(o.Value), itemsOf(o.Frag))
	case 4:
		return slices.Concat(what, text(o.ID), num(o.Token))
	}
	return slices.Concat(what, text(o.ID))
}

// form reads bytes as they come, right or not.
type form struct {
	b    []byte
	torn bool
}

func (f *form) num() int64 {
	n, k := binary.Varint(f.b)
	if k <= 0 {
		f.torn = true
		return 0
	}
	f.b = f.b[k:]
	return n
}

func (f *form) text() string {
	n := f.num()
	if n < 0 || n > int64(len(f.b)) {
		f.torn = true
		return ""
	}
	s := string(f.b[:n])
	f.b = f.b[n:]
	return s
}

func (f *form) value() api.Value {
	v, rest, e := value.Take(f.b)
	f.b, f.torn = rest, f.torn || e != api.OK
	return v
}

func (f *form) items() []api.Item {
	l, rest, e := frag.Take(f.b)
	f.b, f.torn = rest, f.torn || e != api.OK
	return l
}

// parsedOf is the operation of a right form that b is the bytes of, if it is those of one.
func parsedOf(b []byte) (api.Op, bool) {
	f := &form{b: b}
	what := f.num()
	if what < 1 || what > 5 {
		return api.Op{}, false
	}
	o := api.Op{What: uint8(what)}
	if what == 1 {
		o.Frag = f.items()
		o.Quota = int(f.num())
	} else {
		o.ID = f.text()
	}
	if what == 3 || what == 4 {
		o.Token = f.num()
	}
	if what == 3 {
		o.Value = f.value()
		o.Frag = f.items()
	}
	ok := !f.torn && len(f.b) == 0 && isRight(o) && bytes.Equal(saidOf(o), b)
	return o, ok
}

// plainValue is v with no list where there is one of none, in memory of its own.
func plainValue(v api.Value) api.Value {
	var l []api.Value
	for _, one := range v.L {
		l = append(l, plainValue(one))
	}
	v.L = l
	return v
}

func plainItems(l []api.Item) []api.Item {
	var c []api.Item
	for _, x := range l {
		x.After = append([]string(nil), x.After...)
		c = append(c, x)
	}
	return c
}

// plain is o with no list where there is one of none, in memory of its own.
func plain(o api.Op) api.Op {
	o.Value, o.Frag = plainValue(o.Value), plainItems(o.Frag)
	return o
}

func equal(a, b api.Op) bool { return reflect.DeepEqual(plain(a), plain(b)) }

// brief tells an operation, but not all of a long one.
func brief(o api.Op) string {
	s := strings.ReplaceAll(fmt.Sprintf("%#v", o), "api.", "")
	return s[:min(len(s), 500)]
}

func submit(quota int, l ...api.Item) api.Op {
	return api.Op{What: api.OpSubmit, Frag: l, Quota: quota}
}

func dispatch(id string) api.Op { return api.Op{What: api.OpDispatch, ID: id} }

func complete(id string, token int64, v api.Value, l ...api.Item) api.Op {
	return api.Op{What: api.OpComplete, ID: id, Token: token, Value: v, Frag: l}
}

func fail(id string, token int64) api.Op { return api.Op{What: api.OpFail, ID: id, Token: token} }

func cancel(id string) api.Op { return api.Op{What: api.OpCancel, ID: id} }

func number(n int64) api.Value { return api.Value{N: n} }

func words(s string) api.Value { return api.Value{Kind: api.ValText, S: s} }

func list(l ...api.Value) api.Value { return api.Value{Kind: api.ValList, L: l} }

func task(name string, after ...string) api.Item { return api.Item{Name: name, After: after} }

func mapOver(name, over string, width int, after ...string) api.Item {
	return api.Item{Name: name, Kind: api.KindMap, Over: over, Width: width, After: after}
}

// rightIDs are ids' texts: of each byte that may be, and of many lengths.
func rightIDs() []string {
	l := []string{"x", "0/a", "1/a/b", "12/m[3]/y", "a+b<c", "!", "~", "!~", strings.Repeat("!", 400), strings.Repeat("~", 399)}
	for c := 33; c <= 126; c++ {
		s := string(rune(c))
		l = append(l, s, "x"+s, s+"x", "x"+s+"y", strings.Repeat(s, 400))
	}
	for _, n := range []int{2, 3, 10, 62, 63, 64, 65, 100, 127, 128, 129, 255, 256, 257, 398, 399, 400} {
		l = append(l, strings.Repeat("n", n))
	}
	return l
}

// wrongIDs are none: of no byte, of more than 400, and of each byte that may not be, at the beginning, within, and at the end.
func wrongIDs() []string {
	l := []string{"", strings.Repeat("x", 401), strings.Repeat("~", 402), strings.Repeat("x", 512), strings.Repeat("x", 1<<16+1), "é", "0/\u4e16", "0/a b", "0/a\n", "\t", strings.Repeat(" ", 400)}
	for c := range 256 {
		if c < 33 || c > 126 {
			s := string([]byte{byte(c)})
			l = append(l, s, s+"x", "x"+s, "x"+s+"y", strings.Repeat("x", 399)+s, s+strings.Repeat("x", 399))
		}
	}
	return l
}

// rightValues are right ones: ordinary ones, and those at the limits.
func rightValues() []api.Value {
	deep := number(1)
	for range 5 {
		deep = list(deep)
	}
	much := list(slices.Repeat([]api.Value{list(number(1), words("a"), list(), number(-1))}, 39)...)
	return []api.Value{number(0), number(1), number(-1), number(math.MaxInt64), number(math.MinInt64), words(""), words("v"), words(strings.Repeat("\xff", 100)),
		list(), {Kind: api.ValList, L: []api.Value{}}, {L: []api.Value{}}, list(number(0)), list(number(1), list(words("a"), list())), deep, much, list(slices.Repeat([]api.Value{list()}, 40)...)}
}

// wrongValues are not right.
func wrongValues() []api.Value {
	deep := number(1)
	for range 6 {
		deep = list(deep)
	}
	much := list(slices.Repeat([]api.Value{list(number(1), words("a"), list(), number(-1))}, 40)...)
	l := []api.Value{{Kind: 3}, {Kind: 255}, {S: "a"}, {N: 1, S: "a"}, {L: []api.Value{{}}}, {Kind: 1, N: 1}, {Kind: 1, L: []api.Value{{}}}, {Kind: 2, N: 1}, {Kind: 2, S: "a"},
		words(strings.Repeat("a", 101)), list(slices.Repeat([]api.Value{list()}, 41)...), deep, much}
	for _, v := range l[:9] {
		l = append(l, list(v), list(number(1), list(v)))
	}
	return l
}

// rightFrags are fragments of a right form: ordinary ones, and those at the limits.
func rightFrags() [][]api.Item {
	long := strings.Repeat("z", 20)
	great := mapOver(long, long, 40, slices.Repeat([]string{long}, 20)...)
	great.Quota = 400
	return [][]api.Item{nil, {}, {task("a")}, {{Name: "a", After: []string{}}}, {task("a"), task("a", "a")}, {task("a"), mapOver("m", "a", 3), task("s", "m", "a")}, {mapOver("m", "m", 0)},
		{{Name: "a", Quota: 400}}, slices.Repeat([]api.Item{great}, 40), slices.Repeat([]api.Item{task("b", "a")}, 39)}
}

// wrongFrags are of no right form.
func wrongFrags() [][]api.Item {
	l := [][]api.Item{slices.Repeat([]api.Item{task("a")}, 41), slices.Repeat([]api.Item{task("a")}, 1000)}
	for _, x := range []api.Item{{}, task("A"), task(strings.Repeat("a", 21)), task("a", ""), task("a", slices.Repeat([]string{"b"}, 21)...), {Name: "a", Kind: 2}, {Name: "a", Over: "b"}, {Name: "a", Width: 1},
		mapOver("m", "", 1), mapOver("m", "a", 41), mapOver("m", "a", -1), {Name: "a", Quota: -1}, {Name: "a", Quota: 401}} {
		l = append(l, []api.Item{x}, []api.Item{task("a"), x}, []api.Item{x, task("a")})
	}
	return l
}

func rightTokens() []int64 {
	return []int64{1, 2, 3, 63, 64, 127, 128, 1 << 31, 1 << 32, 1 << 62, 1<<62 + 1, math.MaxInt64 - 1, math.MaxInt64}
}

func wrongTokens() []int64 {
	return []int64{0, -1, -2, -64, -65, math.MinInt32, -1 << 32, -1<<32 + 1, math.MinInt64 + 1, math.MinInt64}
}

func wrongQuotas() []int {
	return []int{-1, -2, -64, -400, 401, 402, 512, 1000, 1 << 16, 1<<16 + 3, 1 << 32, 1<<32 + 3, math.MaxInt, math.MinInt, math.MinInt + 1}
}

// base are ordinary operations, one of each kind.
func base() []api.Op {
	return []api.Op{
		submit(3, task("a"), mapOver("m", "a", 2, "a")),
		dispatch("0/a"),
		complete("0/a", 9, list(words("v"), number(-1)), task("b"), task("c", "b")),
		fail("0/a", 9),
		cancel("0/a"),
	}
}

// rights are operations of a right form: ordinary ones, those at the limits, and drawn ones.
func rights() []api.Op {
	l := append(base(), submit(0), submit(3), submit(400), api.Op{What: api.OpSubmit, Frag: []api.Item{}, Value: api.Value{L: []api.Value{}}}, complete("x", 1, number(0)))
	for _, id := range rightIDs() {
		l = append(l, dispatch(id), complete(id, 1, number(0)), fail(id, 1), cancel(id))
	}
	for _, token := range rightTokens() {
		l = append(l, complete("x", token, number(0)), fail("x", token))
	}
	for n := range 401 {
		l = append(l, submit(n), submit(n, task("a")))
	}
	for _, items := range rightFrags() {
		l = append(l, submit(0, items...), submit(400, items...))
		for _, v := range rightValues() {
			l = append(l, complete("x", 1, v, items...))
		}
	}
	r := chance()
	for range 300 {
		l = append(l, drawn(r))
	}
	return l
}

// wrongs are operations of no right form: most for one reason alone.
func wrongs() []api.Op {
	var l []api.Op
	for _, id := range wrongIDs() {
		l = append(l, dispatch(id), complete(id, 1, number(0)), fail(id, 1), cancel(id))
	}
	for _, token := range wrongTokens() {
		l = append(l, complete("x", token, number(0)), fail("x", token))
	}
	for _, n := range wrongQuotas() {
		l = append(l, submit(n), submit(n, task("a")))
	}
	for _, items := range wrongFrags() {
		l = append(l, submit(0, items...), complete("x", 1, number(0), items...))
	}
	for _, v := range wrongValues() {
		l = append(l, complete("x", 1, v), complete("x", 1, v, task("a")))
	}
	for _, o := range base() {
		l = append(l, withMore(o)...)
		l = append(l, withKinds(o)...)
		l = append(l, withLess(o)...)
	}
	return append(l, withKinds(api.Op{})...)
}

// withMore are o with one thing each that an operation of its kind does not have.
func withMore(o api.Op) []api.Op {
	var l []api.Op
	with := func(how func(o *api.Op)) {
		c := plain(o)
		how(&c)
		l = append(l, c)
	}
	if o.What == api.OpSubmit {
		for _, id := range []string{"x", " ", "\x00", strings.Repeat("x", 401)} {
			with(func(o *api.Op) { o.ID = id })
		}
	}
	if o.What != api.OpComplete && o.What != api.OpFail {
		for _, token := range append(rightTokens(), wrongTokens()[1:]...) {
			with(func(o *api.Op) { o.Token = token })
		}
	}
	if o.What != api.OpComplete {
		for _, v := range append(rightValues(), wrongValues()...) {
			if !reflect.DeepEqual(plainValue(v), api.Value{}) {
				with(func(o *api.Op) { o.Value = v })
			}
		}
	}
	if o.What != api.OpComplete && o.What != api.OpSubmit {
		for _, items := range append(rightFrags()[2:], wrongFrags()...) {
			with(func(o *api.Op) { o.Frag = items })
		}
	}
	if o.What != api.OpSubmit {
		for _, n := range append(wrongQuotas(), 1, 2, 399, 400) {
			with(func(o *api.Op) { o.Quota = n })
		}
	}
	return l
}

// withLess are o without one thing each that an operation of its kind must have.
func withLess(o api.Op) []api.Op {
	noID, noToken := o, o
	noID.ID, noToken.Token = "", 0
	switch o.What {
	case api.OpSubmit:
		return nil
	case api.OpDispatch, api.OpCancel:
		return []api.Op{noID}
	}
	return []api.Op{noID, noToken}
}

// withKinds are o, but of each kind that is none.
func withKinds(o api.Op) []api.Op {
	var l []api.Op
	for what := range 256 {
		if what < 1 || what > 5 {
			o.What = uint8(what)
			l = append(l, o)
		}
	}
	return l
}

// likes are operations that differ from o in one part alone.
func likes(o api.Op) []api.Op {
	var l []api.Op
	with := func(how func(o *api.Op)) {
		c := plain(o)
		how(&c)
		if !equal(c, o) {
			l = append(l, c)
		}
	}
	for what := range 8 {
		with(func(o *api.Op) { o.What = uint8(what) })
	}
	with(func(o *api.Op) { o.What ^= 128 })
	for _, s := range []string{"", o.ID + "x", "x" + o.ID, "y", strings.ToUpper(o.ID), o.ID[:max(0, len(o.ID)-1)], o.ID[min(1, len(o.ID)):]} {
		with(func(o *api.Op) { o.ID = s })
	}
	for _, n := range []int64{0, 1, -o.Token, o.Token + 1, o.Token - 1, o.Token ^ 1<<32, o.Token ^ math.MinInt64} {
		with(func(o *api.Op) { o.Token = n })
	}
	for _, n := range []int{0, 1, -o.Quota, o.Quota + 1, o.Quota - 1, o.Quota ^ 1<<32} {
		with(func(o *api.Op) { o.Quota = n })
	}
	for _, v := range []api.Value{{}, {N: 1}, {Kind: 1}, {S: "a"}, {Kind: 2}, list(o.Value), {Kind: o.Value.Kind ^ 1, N: o.Value.N, S: o.Value.S, L: o.Value.L}, {Kind: o.Value.Kind, N: o.Value.N + 1, S: o.Value.S, L: o.Value.L},
		{Kind: o.Value.Kind, N: o.Value.N, S: o.Value.S + "a", L: o.Value.L}, {Kind: o.Value.Kind, N: o.Value.N, S: o.Value.S, L: append(plainValue(o.Value).L, number(0))}, {Kind: o.Value.Kind, N: o.Value.N, S: o.Value.S, L: o.Value.L[min(1, len(o.Value.L)):]}} {
		with(func(o *api.Op) { o.Value = v })
	}
	for _, items := range [][]api.Item{nil, {task("a")}, {{}}, append(plainItems(o.Frag), task("a")), o.Frag[min(1, len(o.Frag)):], o.Frag[:max(0, len(o.Frag)-1)]} {
		with(func(o *api.Op) { o.Frag = items })
	}
	for i := range o.Frag {
		with(func(o *api.Op) { o.Frag[i].Name += "a" })
		with(func(o *api.Op) { o.Frag[i].Kind ^= 1 })
		with(func(o *api.Op) { o.Frag[i].Quota++ })
		with(func(o *api.Op) { o.Frag[i].After = append(o.Frag[i].After, "a") })
	}
	return l
}

// chance is the same in each run.
func chance() *rand.Rand { return rand.New(rand.NewPCG(10, 10)) }

// drawn is an operation of a right form.
func drawn(r *rand.Rand) api.Op {
	ids, tokens, values, frags := []string{"x", "0/a", "7/m[2]/b"}, rightTokens(), rightValues(), rightFrags()
	id, token := ids[r.IntN(len(ids))], tokens[r.IntN(len(tokens))]
	items := frags[r.IntN(len(frags))]
	switch 1 + r.IntN(5) {
	case 1:
		return submit(r.IntN(401), items...)
	case 2:
		return dispatch(id)
	case 3:
		return complete(id, token, values[r.IntN(len(values))], items...)
	case 4:
		return fail(id, token)
	}
	return cancel(id)
}

// small is an operation of a right form that has few bytes.
func small(r *rand.Rand) api.Op {
	id := []string{"x", "0/a", "~"}[r.IntN(3)]
	token := int64(1 + r.IntN(70))
	items := [][]api.Item{nil, {task("a")}, {task("a", "b"), mapOver("m", "a", 2)}}[r.IntN(3)]
	v := []api.Value{number(0), number(-300), words("ab"), list(), list(number(1), list(words("")))}[r.IntN(5)]
	switch 1 + r.IntN(5) {
	case 1:
		return submit(r.IntN(401), items...)
	case 2:
		return dispatch(id)
	case 3:
		return complete(id, token, v, items...)
	case 4:
		return fail(id, token)
	}
	return cancel(id)
}
