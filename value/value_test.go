package value_test

import (
	"math"
	"strings"
	"testing"

	"foreman/api"
	"foreman/value"
)

// brief tells a value, but not all of a long one.
func brief(v api.Value) string {
	s := tell(v)
	return s[:min(len(s), 300)]
}

// tell tells all parts of a value, of whatever kind.
func tell(v api.Value) string {
	var l []string
	for _, one := range v.L {
		l = append(l, tell(one))
	}
	return "{" + shownOf(number(int64(v.Kind))) + " " + shownOf(number(v.N)) + " " + shownOf(text(v.S)) + " [" + strings.Join(l, " ") + "]}"
}

// spoil changes all lists of a value, as far as they reach.
func spoil(v api.Value) {
	l := v.L[:cap(v.L)]
	for i := range l {
		spoil(l[i])
		l[i] = api.Value{Kind: 77, N: -77, S: "spoilt"}
	}
}

// roomy is v with spare room behind each of its lists, in which something stands.
func roomy(v api.Value) api.Value {
	if v.L == nil {
		return v
	}
	l := make([]api.Value, 0, len(v.L)+3)
	for _, one := range v.L {
		l = append(l, roomy(one))
	}
	v.L = append(l, number(91), list(number(92)), text("room"))[:len(v.L)]
	return v
}

// whole is v with its spare room, and that of all that is in it, told as values of its lists.
func whole(v api.Value) api.Value {
	all := v.L[:cap(v.L)]
	v.L = nil
	for _, one := range all {
		v.L = append(v.L, whole(one))
	}
	return v
}

// P8.1

func TestRightOfRightValues(t *testing.T) {
	for _, v := range rights() {
		if !isRight(v) {
			t.Fatalf("the test's own value is not right: %s", brief(v))
		}
		if !value.Right(v) {
			t.Errorf("Right of a right value: false: %s", brief(v))
		}
	}
}

func TestRightOfOthers(t *testing.T) {
	for _, v := range wrongs() {
		if isRight(v) {
			t.Fatalf("the test's own value is right: %s", brief(v))
		}
		if value.Right(v) {
			t.Errorf("Right of a value that is not: true: %s", brief(v))
		}
	}
}

func TestRightByDepth(t *testing.T) {
	for lists := range 60 {
		for _, v := range []api.Value{number(1), text("a"), list(), {Kind: api.ValList, L: []api.Value{}}} {
			v := nested(v, lists)
			if got := value.Right(v); got != (lists < 6) {
				t.Errorf("Right of a value %d deep: %v: %s", lists+1, got, brief(v))
			}
			// Depth is asked wherever it is, and not behind the other values of a list.
			if got := value.Right(list(list(), v, number(2))); got != (lists < 5) {
				t.Errorf("Right of a value %d deep, beside others: %v", lists+2, got)
			}
		}
	}
}

func TestRightByParts(t *testing.T) {
	for parts := 1; parts <= 400; parts++ {
		v := ofParts(parts)
		if partsOf(v) != parts {
			t.Fatalf("the test's own value of %d parts has %d", parts, partsOf(v))
		}
		if got := value.Right(v); got != (parts <= 200) {
			t.Errorf("Right of a value of %d parts: %v", parts, got)
		}
	}
}

func TestRightByTextsAndLists(t *testing.T) {
	for n := range 150 {
		for _, part := range []string{"a", "\x00", "\xff"} {
			s := strings.Repeat(part, n)
			if got := value.Right(text(s)); got != (n <= 100) {
				t.Errorf("Right of a text of %d bytes: %v", n, got)
			}
			if got := value.Right(nested(text(s), 5)); got != (n <= 100) {
				t.Errorf("Right of a value with a text of %d bytes: %v", n, got)
			}
		}
		for _, one := range []api.Value{number(0), text(""), list()} {
			if got := value.Right(listOf(n, one)); got != (n <= 40) {
				t.Errorf("Right of a list of %d: %v", n, got)
			}
			if got := value.Right(list(number(1), listOf(n, one))); got != (n <= 40) {
				t.Errorf("Right of a value with a list of %d: %v", n, got)
			}
		}
	}
	// 100 letters of two bytes each are a text of 200 bytes.
	if value.Right(text(strings.Repeat("\u00e9", 51))) || !value.Right(text(strings.Repeat("\u00e9", 50))) {
		t.Error("a text is as long as its bytes are many")
	}
}

func TestRightByKind(t *testing.T) {
	for kind := range 256 {
		for with := range 8 {
			v := api.Value{Kind: uint8(kind)}
			if with&1 != 0 {
				v.N = 1
			}
			if with&2 != 0 {
				v.S = "a"
			}
			if with&4 != 0 {
				v.L = []api.Value{number(0)}
			}
			// A number may have its N alone, a text its S, a list its L.
			want := kind < 3 && with&^(1<<kind) == 0
			if value.Right(v) != want || value.Right(list(v)) != want {
				t.Errorf("Right: %v, in a list: %v, want %v: %s", value.Right(v), value.Right(list(v)), want, brief(v))
			}
		}
		v := api.Value{Kind: uint8(kind), L: []api.Value{}}
		if got := value.Right(v); got != (kind < 3) {
			t.Errorf("Right of kind %d with a list of none, which is no list: %v", kind, got)
		}
	}
}

func TestParts(t *testing.T) {
	for _, v := range append(rights(), wrongs()...) {
		if n := value.Parts(v); n != partsOf(v) {
			t.Errorf("Parts: %d, want %d: %s", n, partsOf(v), brief(v))
		}
	}
	for parts := 1; parts <= 400; parts++ {
		if n := value.Parts(ofParts(parts)); n != parts {
			t.Errorf("Parts of a value of %d parts: %d", parts, n)
		}
	}
	for lists := range 60 {
		if n := value.Parts(nested(text("a"), lists)); n != lists+1 {
			t.Errorf("Parts of a text in %d lists: %d", lists, n)
		}
	}
	if n := value.Parts(listOf(1000, listOf(100, number(1)))); n != 101001 {
		t.Errorf("Parts of a list of 1000 lists of 100 numbers: %d", n)
	}
}

// likes are values that differ from v in one thing alone.
func likes(v api.Value) []api.Value {
	kind, n, s, more := v, v, v, cloned(v)
	kind.Kind++
	n.N++
	s.S += "\x00"
	more.L = append(more.L, number(0))
	l := []api.Value{kind, n, s, more}
	if v.S != "" {
		s.S = v.S[:len(v.S)-1] + string([]byte{v.S[len(v.S)-1] ^ 1})
		l = append(l, s)
	}
	for i := range v.L {
		less := cloned(v)
		less.L = append(less.L[:i], less.L[i+1:]...)
		l = append(l, less)
		if len(v.L) > 5 && i > 2 && i < len(v.L)-2 {
			continue // the ends tell enough of a long list
		}
		for _, one := range likes(v.L[i]) {
			other := cloned(v)
			other.L[i] = one
			l = append(l, other)
		}
	}
	return l
}

func wantSame(t *testing.T, a, b api.Value, want bool) {
	t.Helper()
	if value.Same(a, b) != want || value.Same(b, a) != want {
		t.Errorf("Same: %v, the other way %v, want %v: %s and %s", value.Same(a, b), value.Same(b, a), want, brief(a), brief(b))
	}
}

func TestSameOfTheSame(t *testing.T) {
	for _, v := range append(rights(), wrongs()...) {
		wantSame(t, v, v, true)
		wantSame(t, v, cloned(v), true)
		wantSame(t, v, roomy(v), true) // what stands in the spare room does not count
	}
}

func TestSameOfOthers(t *testing.T) {
	l := append(rights()[:300], wrongs()[:300]...)
	for _, v := range l {
		if partsOf(v) > 60 {
			continue // a long list tells no more of Same than a shorter one
		}
		for _, w := range likes(v) {
			wantSame(t, v, w, false)
		}
	}
	for i, v := range l {
		for _, w := range l[:i] {
			if got := value.Same(v, w); got != equal(v, w) {
				t.Errorf("Same: %v: %s and %s", got, brief(v), brief(w))
			}
		}
	}
}

func TestSameOfListsOfNone(t *testing.T) {
	for kind := range 4 {
		none, empty := api.Value{Kind: uint8(kind)}, api.Value{Kind: uint8(kind), L: make([]api.Value, 0, 5)}
		for lists := range 60 {
			wantSame(t, nested(none, lists), nested(empty, lists), true)
			wantSame(t, nested(none, lists), nested(none, lists+1), false)
		}
		wantSame(t, none, list(none), false)
		wantSame(t, empty, list(list()), false)
	}
}

func TestSameDeepDown(t *testing.T) {
	for lists := range 60 {
		wantSame(t, nested(number(1), lists), nested(number(1), lists), true)
		wantSame(t, nested(number(1), lists), nested(number(2), lists), false)
		wantSame(t, nested(text("a"), lists), nested(text("b"), lists), false)
		wantSame(t, nested(number(0), lists), nested(text(""), lists), false)
		wantSame(t, nested(text(""), lists), nested(list(), lists), false)
		wantSame(t, nested(listOf(3, number(1)), lists), nested(listOf(2, number(1)), lists), false)
	}
}

func TestSameOfNumbersAndTexts(t *testing.T) {
	for _, n := range []int64{0, 1, -1, 1 << 32, math.MaxInt64, math.MinInt64} {
		for _, m := range []int64{0, 1, -1, 1 << 32, math.MaxInt64, math.MinInt64} {
			wantSame(t, number(n), number(m), n == m)
		}
	}
	for _, s := range []string{"", "a", "A", "aa", "ab", "b", "\x00", "a\x00", "\xff"} {
		for _, r := range []string{"", "a", "A", "aa", "ab", "b", "\x00", "a\x00", "\xff"} {
			wantSame(t, text(s), text(r), s == r)
		}
	}
}

func TestCopyIsTheSame(t *testing.T) {
	for _, v := range append(rights(), wrongs()...) {
		if c := value.Copy(v); !equal(c, v) {
			t.Errorf("Copy: %s, want %s", brief(c), brief(v))
		}
		if c := value.Copy(roomy(v)); !equal(c, v) {
			t.Errorf("Copy, with spare room: %s, want %s", brief(c), brief(v))
		}
	}
}

func TestCopyIsInMemoryOfItsOwn(t *testing.T) {
	for _, v := range append(rights(), wrongs()...) {
		kept, given := cloned(v), roomy(v)
		before := whole(given)
		first, second := value.Copy(given), value.Copy(given)
		spoil(first)
		if !equal(whole(given), before) || !equal(second, kept) {
			t.Fatalf("a copy shares memory with the value, or with another copy: %s", brief(kept))
		}
		spoil(given)
		if !equal(second, kept) {
			t.Fatalf("a copy changes with the value: %s", brief(kept))
		}
		wantListsApart(t, second)
	}
}

// wantListsApart wants that none of a value's lists reaches into the memory of another one.
func wantListsApart(t *testing.T, v api.Value) {
	t.Helper()
	want := cloned(v)
	grown := cloned(v)
	grow(v)
	grow(grown)
	if !equal(v, grown) {
		t.Fatalf("lists of one answer share memory: %s", brief(want))
	}
}

// grow puts something behind each of a value's lists, into its spare room, if it has some.
func grow(v api.Value) {
	for i := range v.L {
		grow(v.L[i])
	}
	if v.L != nil {
		_ = append(v.L, text("grown"), text("grown"))
	}
}

// What is in a value once more, at another place, is copied once more.
func TestCopyOfAListThatIsThereTwice(t *testing.T) {
	twice := list(number(1), number(2))
	c := value.Copy(list(twice, list(twice), twice))
	c.L[0].L[0] = number(9)
	if !equal(c, list(list(number(9), number(2)), list(twice), twice)) {
		t.Errorf("places of a copy share memory: %s", brief(c))
	}
}

// asked hands v to all that ask a value.
func asked(v api.Value) {
	value.Right(v)
	value.Parts(v)
	value.Same(v, v)
	value.Copy(v)
	value.Bytes(v)
	value.Put([]byte{1}, v)
	value.Show(v)
}

func TestValuesHandedInStay(t *testing.T) {
	for _, v := range append(rights(), wrongs()...) {
		given := roomy(v)
		before := cloned(whole(given))
		asked(given)
		if !equal(whole(given), before) {
			t.Fatalf("a value that was asked has changed, or its spare room: %s", brief(v))
		}
	}
}

// Each call ends, at values that have no end, too.
func TestAListThatHoldsItself(t *testing.T) {
	for kind := range 4 {
		l := make([]api.Value, 1)
		l[0] = api.Value{Kind: uint8(kind), L: l}
		asked(l[0])
		if value.Right(l[0]) {
			t.Errorf("Right of a value that is in itself: true, kind %d", kind)
		}
		if !value.Same(l[0], l[0]) {
			t.Errorf("Same of a value that is in itself, and it: false, kind %d", kind)
		}
	}
	// Of these, what asks no more than a right value may have.
	wide := make([]api.Value, 40)
	for i := range wide {
		wide[i] = api.Value{Kind: api.ValList, L: wide}
	}
	if v := list(wide...); value.Right(v) || value.Show(v) != "" {
		t.Error("Right, or Show, of a value without an end")
	}
	if b, e := value.Bytes(list(wide...)); len(b) != 0 || e != api.ErrArg {
		t.Errorf("Bytes of a value without an end: % x, error %d", b, e)
	}
}

func TestValuesOfAnyDepth(t *testing.T) {
	for _, lists := range []int{60, 61, 100, 10000} {
		v := nested(number(1), lists)
		if n := value.Parts(v); n != lists+1 {
			t.Errorf("Parts of a number in %d lists: %d", lists, n)
		}
		if !value.Same(v, value.Copy(v)) || value.Same(v, nested(number(2), lists)) {
			t.Errorf("Same of a number in %d lists", lists)
		}
		asked(v)
	}
}
