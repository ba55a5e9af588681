package frag_test

import (
	"fmt"
	"slices"
	"strings"
	"testing"

	"foreman/api"
	"foreman/frag"
)

// roomy is l with spare room behind its items, and behind the names that each is after, in which something stands.
func roomy(l []api.Item) []api.Item {
	c := make([]api.Item, 0, len(l)+3)
	for _, x := range l {
		after := append(make([]string, 0, len(x.After)+2), x.After...)
		x.After = append(after, "room", "A")[:len(x.After)]
		c = append(c, x)
	}
	return append(c, task("room", "b"), api.Item{Kind: 9}, mapOver("m", "", 77))[:len(l)]
}

// whole is l with its spare room, and that of what its items are after.
func whole(l []api.Item) []api.Item {
	c := slices.Clone(l[:cap(l)])
	for i := range c {
		c[i].After = slices.Clone(c[i].After[:cap(c[i].After)])
	}
	return c
}

// spoil changes all of a fragment, as far as its lists reach.
func spoil(l []api.Item) {
	l = l[:cap(l)]
	for i := range l {
		after := l[i].After[:cap(l[i].After)]
		for k := range after {
			after[k] = "spoilt"
		}
		l[i] = api.Item{Name: "spoilt", Kind: 77, Quota: -77}
	}
}

// grow puts something behind all lists of a fragment, into their spare room, if they have some.
func grow(l []api.Item) {
	for _, x := range l {
		_ = append(x.After, slices.Repeat([]string{"grown"}, cap(x.After)-len(x.After))...)
	}
	_ = append(l, slices.Repeat([]api.Item{task("grown")}, cap(l)-len(l))...)
}

// wantListsApart wants that no list of a fragment reaches into the memory of another one.
func wantListsApart(t *testing.T, l []api.Item) {
	t.Helper()
	want := plain(l)
	grow(l)
	if !equal(l, want) {
		t.Fatalf("lists of one answer share memory: %s", brief(want))
	}
	number(l) // each place is written once, if it is one place alone
	number(want)
	if !equal(l, want) {
		t.Fatalf("items of one answer share memory: %s", brief(want))
	}
}

// number gives each name that an item is after another number.
func number(l []api.Item) {
	n := 0
	for _, x := range l {
		for k := range x.After {
			x.After[k] = fmt.Sprint(n)
			n++
		}
	}
}

// P9.1

func TestName(t *testing.T) {
	for _, s := range rightNames() {
		if !isName(s) || !frag.Name(s) {
			t.Errorf("Name(%q): %v", s, frag.Name(s))
		}
	}
	for _, s := range wrongNames() {
		if isName(s) || frag.Name(s) {
			t.Errorf("Name(%q), which is none: %v", s, frag.Name(s))
		}
	}
}

func TestNameByLength(t *testing.T) {
	for n := range 300 {
		for _, part := range []string{"a", "z", "0", "9", "_"} {
			if got := frag.Name(strings.Repeat(part, n)); got != (n >= 1 && n <= 20) {
				t.Errorf("Name of %d times %s: %v", n, part, got)
			}
		}
	}
	if frag.Name(strings.Repeat("a", 1<<20)) {
		t.Error("Name of a long text: true")
	}
}

func TestNameByEachByte(t *testing.T) {
	for c := range 256 {
		b := byte(c)
		want := b >= 'a' && b <= 'z' || b >= '0' && b <= '9' || b == '_'
		for long := 1; long <= 20; long++ {
			for at := range long {
				s := []byte(strings.Repeat("m", long))
				s[at] = b
				if got := frag.Name(string(s)); got != want {
					t.Errorf("Name(%q): %v", s, got)
				}
			}
		}
	}
}

func TestRightOfRightForms(t *testing.T) {
	for _, l := range rights() {
		if !isRight(l) {
			t.Fatalf("the test's own fragment is of no right form: %s", brief(l))
		}
		if !frag.Right(l) || !frag.Right(roomy(l)) {
			t.Errorf("Right of a fragment of a right form: false: %s", brief(l))
		}
	}
}

func TestRightOfOthers(t *testing.T) {
	for _, l := range wrongs() {
		if isRight(l) {
			t.Fatalf("the test's own fragment is of a right form: %s", brief(l))
		}
		if frag.Right(l) || frag.Right(roomy(l)) {
			t.Errorf("Right of a fragment of no right form: true: %s", brief(l))
		}
	}
}

func TestRightByHowManyItems(t *testing.T) {
	for n := range 300 {
		for _, x := range []api.Item{task("a"), task("b", "a"), mapOver("m", "a", 40)} {
			if got := frag.Right(slices.Repeat([]api.Item{x}, n)); got != (n <= 40) {
				t.Errorf("Right of %d items: %v", n, got)
			}
		}
	}
}

func TestRightByHowManyNamesItIsAfter(t *testing.T) {
	for n := range 300 {
		for _, x := range []api.Item{task("a", several(n)...), task("a", names(n, "b")...), mapOver("m", "a", 1, several(n)...)} {
			wantRight(t, x, n <= 20)
		}
	}
}

// wantRight wants that just that of an item, alone, and behind and ahead of others.
func wantRight(t *testing.T, x api.Item, want bool) {
	t.Helper()
	for _, l := range [][]api.Item{{x}, {task("a"), x}, {x, task("a")}, {mapOver("m", "a", 0), x, task("a")}} {
		if got := frag.Right(l); got != want {
			t.Errorf("Right: %v, want %v: %s", got, want, brief(l))
		}
	}
}

func TestRightByNumbers(t *testing.T) {
	for n := -500; n <= 1000; n++ {
		wantRight(t, withQuota(task("a"), n), n >= 0 && n <= 400)
		wantRight(t, withQuota(mapOver("m", "a", 3), n), n >= 0 && n <= 400)
		wantRight(t, mapOver("m", "a", n), n >= 0 && n <= 40)
		wantRight(t, api.Item{Name: "a", Width: n}, n == 0)
	}
	for _, n := range farNumbers() {
		wantRight(t, withQuota(task("a"), n), n == 256)
		wantRight(t, mapOver("m", "a", n), false)
	}
}

func TestRightByKind(t *testing.T) {
	for kind := range 256 {
		for with := range 4 {
			x := api.Item{Name: "a", Kind: uint8(kind)}
			if with&1 != 0 {
				x.Over = "b"
			}
			if with&2 != 0 {
				x.Width = 1
			}
			// A task has neither; a map has something that it is over.
			wantRight(t, x, kind == 0 && with == 0 || kind == 1 && with&1 != 0)
		}
	}
}

func TestRightWhereverAnItemStands(t *testing.T) {
	r := chance()
	wrong := []api.Item{{}, task("A"), task("a", ""), mapOver("m", "", 1), mapOver("m", "a", 41), {Name: "a", Over: "b"}, {Name: "a", Kind: api.KindEach}, withQuota(task("a"), -1)}
	for n := 1; n <= 40; n++ {
		l := drawn(r, n)
		for at := range l {
			c := plain(l)
			for _, c[at] = range wrong {
				if frag.Right(c) {
					t.Errorf("Right of %d items, of which the one at %d is not: true", n, at)
				}
			}
		}
	}
}

// Which names are there is not asked here.
func TestRightAsksForNoReference(t *testing.T) {
	for _, l := range [][]api.Item{{task("a"), task("a")}, {task("a", "a")}, {task("a", "b"), task("b", "a")}, {task("a", "nobody")}, {mapOver("m", "m", 1)}, {mapOver("m", "nobody", 1, "m", "m")}} {
		if !frag.Right(l) {
			t.Errorf("Right: false: %s", brief(l))
		}
	}
}

func wantSame(t *testing.T, a, b []api.Item, want bool) {
	t.Helper()
	if frag.Same(a, b) != want || frag.Same(b, a) != want {
		t.Errorf("Same: %v, the other way %v, want %v: %s and %s", frag.Same(a, b), frag.Same(b, a), want, brief(a), brief(b))
	}
}

func TestSameOfTheSame(t *testing.T) {
	for _, l := range append(rights(), wrongs()...) {
		wantSame(t, l, l, true)
		wantSame(t, l, plain(l), true)
		wantSame(t, l, roomy(l), true) // what stands in the spare room does not count
	}
}

func TestSameOfListsOfNone(t *testing.T) {
	wantSame(t, nil, []api.Item{}, true)
	wantSame(t, nil, make([]api.Item, 0, 5), true)
	wantSame(t, nil, []api.Item{{}}, false)
	none, empty := api.Item{Name: "a"}, api.Item{Name: "a", After: make([]string, 0, 5)}
	wantSame(t, []api.Item{none}, []api.Item{empty}, true)
	wantSame(t, []api.Item{none, empty}, []api.Item{empty, none}, true)
	wantSame(t, []api.Item{none}, []api.Item{none, empty}, false)
}

func TestSameOfThoseThatDifferInOnePart(t *testing.T) {
	l := append(rights()[:150], wrongs()[:300]...)
	r := chance()
	for n := range 8 {
		l = append(l, drawn(r, n))
	}
	for _, one := range l {
		for _, other := range likes(one) {
			wantSame(t, one, other, false)
		}
	}
}

func TestSameOfAnyTwo(t *testing.T) {
	l := append(rights()[:300], wrongs()[:300]...)
	for i, a := range l {
		for _, b := range l[:i] {
			if got := frag.Same(a, b); got != equal(a, b) {
				t.Errorf("Same: %v: %s and %s", got, brief(a), brief(b))
			}
		}
	}
}

// Where a name ends, and of which list it is, is part of what is the same.
func TestSameByWhereNamesEnd(t *testing.T) {
	l := [][]api.Item{{task("a", "ab", "c")}, {task("a", "a", "bc")}, {task("a", "abc")}, {task("aa", "b", "c")}, {mapOver("a", "ab", 0, "c")}, {mapOver("a", "c", 0, "ab")}, {task("a", "c", "ab")}, {task("a", "ab"), task("c")}, {task("a"), task("ab", "c")}, {task("a", "ab", "c", "")}, {task("a", "", "ab", "c")}}
	for i, a := range l {
		for k, b := range l {
			wantSame(t, a, b, i == k)
		}
	}
}

func TestCopyIsTheSame(t *testing.T) {
	for _, l := range append(rights(), wrongs()...) {
		if c := frag.Copy(l); !equal(c, l) {
			t.Errorf("Copy: %s, want %s", brief(c), brief(l))
		}
		if c := frag.Copy(roomy(l)); !equal(c, l) {
			t.Errorf("Copy, with spare room: %s, want %s", brief(c), brief(l))
		}
	}
}

func TestCopyIsInMemoryOfItsOwn(t *testing.T) {
	for _, l := range append(rights(), wrongs()...) {
		kept, given := plain(l), roomy(l)
		before := whole(given)
		first, second := frag.Copy(given), frag.Copy(given)
		spoil(first)
		if !equal(whole(given), before) || !equal(second, kept) {
			t.Fatalf("a copy shares memory with the fragment, or with another copy: %s", brief(kept))
		}
		spoil(given)
		if !equal(second, kept) {
			t.Fatalf("a copy changes with the fragment: %s", brief(kept))
		}
		wantListsApart(t, second)
	}
}

// What several items are after in one memory, is copied for each of them.
func TestCopyOfNamesThatAreThereTwice(t *testing.T) {
	after := []string{"x", "y", "z"}
	c := frag.Copy([]api.Item{task("a", after...), task("b", after...), task("c", after[:2]...), task("d", after[1:]...)})
	c[0].After[1] = "changed"
	want := []api.Item{task("a", "x", "changed", "z"), task("b", "x", "y", "z"), task("c", "x", "y"), task("d", "y", "z")}
	if !equal(c, want) {
		t.Errorf("items of a copy share memory: %s", brief(c))
	}
	_ = append(c[2].After, "grown")
	if !equal(c, want) {
		t.Errorf("items of a copy share memory: %s", brief(c))
	}
}

func TestFragmentsHandedInStay(t *testing.T) {
	for _, l := range append(rights(), wrongs()...) {
		given := roomy(l)
		before := whole(given)
		frag.Right(given)
		frag.Same(given, given)
		frag.Same(given, l)
		frag.Copy(given)
		frag.Bytes(given)
		frag.Put([]byte{1}, given)
		if !equal(whole(given), before) {
			t.Fatalf("a fragment that was handed in has changed, or its spare room: %s", brief(l))
		}
	}
}

func TestGreatFragments(t *testing.T) {
	l := slices.Repeat([]api.Item{task("a", several(100)...)}, 10000)
	if frag.Right(l) || !frag.Same(l, frag.Copy(l)) || frag.Same(l, l[1:]) {
		t.Error("Right, Same or Copy of 10000 items, each after 100 names")
	}
	if b, e := frag.Bytes(l); len(b) != 0 || e != api.ErrArg {
		t.Errorf("Bytes of 10000 items: %d bytes, error %d", len(b), e)
	}
}
