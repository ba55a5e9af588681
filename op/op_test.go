package op_test

import (
	"math"
	"slices"
	"strings"
	"testing"

	"foreman/api"
	"foreman/op"
)

func roomyValue(v api.Value) api.Value {
	l := make([]api.Value, 0, len(v.L)+2)
	for _, one := range v.L {
		l = append(l, roomyValue(one))
	}
	v.L = append(l, words("room"), api.Value{Kind: 9})[:len(v.L)]
	return v
}

func roomyItems(l []api.Item) []api.Item {
	c := make([]api.Item, 0, len(l)+2)
	for _, x := range l {
		x.After = append(append(make([]string, 0, len(x.After)+2), x.After...), "room", "A")[:len(x.After)]
		c = append(c, x)
	}
	return append(c, task("room", "b"), api.Item{Kind: 9})[:len(l)]
}

// roomy is o with spare room behind each of its lists, in which something stands.
func roomy(o api.Op) api.Op {
	o.Value, o.Frag = roomyValue(o.Value), roomyItems(o.Frag)
	return o
}

func wholeValue(v api.Value) api.Value {
	v.L = slices.Clone(v.L[:cap(v.L)])
	for i := range v.L {
		v.L[i] = wholeValue(v.L[i])
	}
	return v
}

// whole is o with the spare room of its lists, in memory of its own.
func whole(o api.Op) api.Op {
	o.Value, o.Frag = wholeValue(o.Value), slices.Clone(o.Frag[:cap(o.Frag)])
	for i := range o.Frag {
		o.Frag[i].After = slices.Clone(o.Frag[i].After[:cap(o.Frag[i].After)])
	}
	return o
}

func spoilValue(v api.Value) {
	l := v.L[:cap(v.L)]
	for i := range l {
		spoilValue(l[i])
		l[i] = api.Value{Kind: 77, N: 77, S: "spoilt"}
	}
}

// spoil changes all of an operation, as far as its lists reach.
func spoil(o api.Op) {
	spoilValue(o.Value)
	l := o.Frag[:cap(o.Frag)]
	for i := range l {
		after := l[i].After[:cap(l[i].After)]
		for k := range after {
			after[k] = "spoilt"
		}
		l[i] = api.Item{Name: "spoilt", Kind: 77}
	}
}

// fill puts zeros into the spare room of all lists of an operation.
func fill(o api.Op) {
	fillValue(o.Value)
	for _, x := range o.Frag {
		clear(x.After[len(x.After):cap(x.After)])
	}
	clear(o.Frag[len(o.Frag):cap(o.Frag)])
}

func fillValue(v api.Value) {
	for _, one := range v.L {
		fillValue(one)
	}
	clear(v.L[len(v.L):cap(v.L)])
}

// P10.1

func TestID(t *testing.T) {
	for _, s := range rightIDs() {
		if !isID(s) || !op.ID(s) {
			t.Errorf("ID(%q): %v", s, op.ID(s))
		}
	}
	for _, s := range wrongIDs() {
		if isID(s) || op.ID(s) {
			t.Errorf("ID(%q), which is none: %v", s, op.ID(s))
		}
	}
}

func TestIDByLength(t *testing.T) {
	for n := range 1000 {
		for _, part := range []string{"x", "!", "~"} {
			if got := op.ID(strings.Repeat(part, n)); got != (n >= 1 && n <= 400) {
				t.Errorf("ID of %d times %s: %v", n, part, got)
			}
		}
	}
	if op.ID(strings.Repeat("x", 1<<20)) {
		t.Error("ID of a long text: true")
	}
}

func TestIDByEachByte(t *testing.T) {
	for c := range 256 {
		for _, long := range []int{1, 2, 3, 10, 399, 400} {
			for _, at := range []int{0, long / 2, long - 1} {
				s := []byte(strings.Repeat("m", long))
				s[at] = byte(c)
				if got := op.ID(string(s)); got != (c >= 33 && c <= 126) {
					t.Errorf("ID(%q): %v", s, got)
				}
			}
		}
	}
}

func TestIDWhereverAByteStands(t *testing.T) {
	for _, c := range []byte{0, 32, 127, 128, 255} {
		for at := range 400 {
			s := []byte(strings.Repeat("m", 400))
			s[at] = c
			if op.ID(string(s)) {
				t.Errorf("ID of 400 bytes, of which that at %d is %d: true", at, c)
			}
		}
	}
}

func wantRight(t *testing.T, o api.Op, want bool) {
	t.Helper()
	if isRight(o) != want {
		t.Fatalf("the test's own words: right is %v, want %v: %s", isRight(o), want, brief(o))
	}
	if op.Right(o) != want || op.Right(roomy(o)) != want {
		t.Errorf("Right: %v, with spare room %v, want %v: %s", op.Right(o), op.Right(roomy(o)), want, brief(o))
	}
}

func TestRightOfRightForms(t *testing.T) {
	for _, o := range rights() {
		wantRight(t, o, true)
	}
}

func TestRightOfOthers(t *testing.T) {
	for _, o := range wrongs() {
		wantRight(t, o, false)
	}
}

func TestRightByKind(t *testing.T) {
	for _, o := range append(base(), api.Op{}, submit(0), complete("x", 1, number(0)), api.Op{Token: 1}, api.Op{ID: "x", Quota: 1}) {
		for what := range 256 {
			o.What = uint8(what)
			wantRight(t, o, isRight(o))
		}
	}
}

// What of the kinds has what: each of the 32 choices of things, in an operation of each kind.
func TestRightByWhatIsThere(t *testing.T) {
	right := map[[2]int]bool{}
	for _, p := range [][2]int{{1, 0}, {1, 8}, {1, 16}, {1, 24}, {2, 1}, {5, 1}, {4, 3}, {3, 3}, {3, 7}, {3, 11}, {3, 15}} {
		right[p] = true
	}
	for what := range 10 {
		for with := range 32 {
			o := api.Op{What: uint8(what)}
			if with&1 != 0 {
				o.ID = "x"
			}
			if with&2 != 0 {
				o.Token = 1
			}
			if with&4 != 0 {
				o.Value = words("")
			}
			if with&8 != 0 {
				o.Frag = []api.Item{task("a")}
			}
			if with&16 != 0 {
				o.Quota = 1
			}
			wantRight(t, o, right[[2]int{what, with}])
		}
	}
}

func TestRightByQuota(t *testing.T) {
	for n := -500; n <= 1000; n++ {
		wantRight(t, submit(n), n >= 0 && n <= 400)
		wantRight(t, submit(n, task("a")), n >= 0 && n <= 400)
		for _, o := range base()[1:] {
			o.Quota = n
			wantRight(t, o, n == 0)
		}
	}
}

func TestRightByToken(t *testing.T) {
	for _, n := range append(rightTokens(), wrongTokens()...) {
		wantRight(t, complete("x", n, number(0)), n >= 1)
		wantRight(t, fail("x", n), n >= 1)
		for _, o := range []api.Op{submit(0), dispatch("x"), cancel("x")} {
			o.Token = n
			wantRight(t, o, n == 0)
		}
	}
}

// The value that is the number 0, and no items, are nothing, whatever their lists of none are.
func TestRightOfListsOfNone(t *testing.T) {
	for _, o := range []api.Op{submit(3), dispatch("x"), fail("x", 1), cancel("x")} {
		o.Value.L, o.Frag = []api.Value{}, make([]api.Item, 0, 5)
		wantRight(t, o, true)
	}
	o := dispatch("x")
	o.Value = list()
	wantRight(t, o, false)
}

// A list that holds itself is no right value, and is not gone into for ever.
func TestRightOfAListThatHoldsItself(t *testing.T) {
	v := list(number(1))
	v.L[0] = v
	for _, o := range base() {
		o.Value = v
		if op.Right(o) {
			t.Errorf("Right of kind %d, with a list that holds itself: true", o.What)
		}
		if b, e := op.Bytes(o); len(b) != 0 || e != api.ErrArg {
			t.Errorf("Bytes of kind %d, with a list that holds itself: % x, error %d", o.What, b, e)
		}
	}
}

func wantSame(t *testing.T, a, b api.Op, want bool) {
	t.Helper()
	if op.Same(a, b) != want || op.Same(b, a) != want {
		t.Errorf("Same: %v, the other way %v, want %v: %s and %s", op.Same(a, b), op.Same(b, a), want, brief(a), brief(b))
	}
}

func TestSameOfTheSame(t *testing.T) {
	for _, o := range append(rights(), wrongs()...) {
		wantSame(t, o, o, true)
		wantSame(t, o, plain(o), true)
		wantSame(t, o, roomy(o), true) // what stands in the spare room does not count
	}
	wantSame(t, api.Op{}, api.Op{Frag: []api.Item{}, Value: api.Value{L: []api.Value{}}}, true)
}

func TestSameOfThoseThatDifferInOnePart(t *testing.T) {
	some := append(base(), api.Op{}, api.Op{What: 200, ID: " ", Token: math.MinInt64, Value: api.Value{Kind: 7, S: "b"}, Quota: -5}, api.Op{What: 3, ID: strings.Repeat("x", 500), Quota: 1})
	r := chance()
	for range 200 {
		some = append(some, drawn(r))
	}
	for _, o := range some {
		for _, other := range likes(o) {
			wantSame(t, o, other, false)
		}
	}
}

func TestSameOfAnyTwo(t *testing.T) {
	r := chance()
	l := append(base(), api.Op{})
	for range 100 {
		l = append(l, drawn(r), small(r))
	}
	all := wrongs()
	for range 100 {
		l = append(l, all[r.IntN(len(all))])
	}
	for i, a := range l {
		for _, b := range l[:i] {
			if got := op.Same(a, b); got != equal(a, b) {
				t.Errorf("Same: %v: %s and %s", got, brief(a), brief(b))
			}
		}
	}
}

func TestOperationsHandedInStay(t *testing.T) {
	for _, o := range append(rights(), wrongs()...) {
		given := roomy(o)
		before := whole(given)
		op.Right(given)
		op.Same(given, given)
		op.Same(given, o)
		op.Bytes(given)
		if !equal(whole(given), before) || !equal(given, o) {
			t.Fatalf("an operation that was handed in has changed, or its spare room: %s", brief(o))
		}
	}
}
