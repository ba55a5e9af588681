package frag_test

import (
	"bytes"
	"math"
	"slices"
	"strings"
	"testing"

	"foreman/api"
	"foreman/frag"
)

// fronts are bytes that something is put behind.
func fronts() [][]byte {
	return [][]byte{nil, {}, {7}, {128}, {2, 2, 97}, []byte("of some length, more than a fragment's bytes often have")}
}

// spoilBytes writes over all that b reaches, its spare room too.
func spoilBytes(b []byte) {
	b = b[:cap(b)]
	for i := range b {
		b[i] ^= 0xA5
	}
}

// P9.2

func TestBytesOfRightForms(t *testing.T) {
	for _, l := range rights() {
		b, e := frag.Bytes(l)
		if e != api.OK || !bytes.Equal(b, saidOf(l)) {
			t.Errorf("Bytes: % x, error %d, want % x: %s", b, e, saidOf(l), brief(l))
		}
	}
}

func TestBytesOfOthers(t *testing.T) {
	for _, l := range wrongs() {
		if b, e := frag.Bytes(l); len(b) != 0 || e != api.ErrArg {
			t.Errorf("Bytes of a fragment of no right form: % x, error %d: %s", b, e, brief(l))
		}
	}
}

func TestPut(t *testing.T) {
	for _, front := range fronts() {
		for _, l := range rights() {
			if b, want := frag.Put(front, l), slices.Concat(front, saidOf(l)); !bytes.Equal(b, want) {
				t.Errorf("Put behind % x: % x, want % x: %s", front, b, want, brief(l))
			}
		}
	}
}

func TestPutOfOthersHasTheBytesAhead(t *testing.T) {
	for _, front := range fronts() {
		for _, l := range wrongs() {
			if b := frag.Put(front, l); !bytes.HasPrefix(b, front) {
				t.Errorf("Put behind % x: % x: %s", front, b, brief(l))
			}
		}
	}
}

// What is put is in memory of its own: neither b, nor its spare room, nor what was put behind the same bytes.
func TestWhatIsPutIsInMemoryOfItsOwn(t *testing.T) {
	some := append(rights()[:100], wrongs()[:100]...)
	for _, long := range []int{0, 1, 5, 100} {
		for _, l := range some {
			room := bytes.Repeat([]byte("spare room. "), 2000)
			kept := bytes.Clone(room)
			first, second := frag.Put(room[:long], l), frag.Put(room[:long], l)
			want := bytes.Clone(second)
			if !bytes.Equal(room, kept) {
				t.Fatalf("Put changed what was handed in, or its spare room: %s", brief(l))
			}
			spoilBytes(first)
			if !bytes.Equal(room, kept) || !bytes.Equal(second, want) {
				t.Fatalf("what is put shares memory with what was handed in, or with another answer: %s", brief(l))
			}
			spoilBytes(room)
			if !bytes.Equal(second, want) {
				t.Fatalf("what is put changes with what was handed in: %s", brief(l))
			}
		}
	}
}

func TestBytesAreInMemoryOfTheirOwn(t *testing.T) {
	for _, l := range rights() {
		first, _ := frag.Bytes(l)
		second, _ := frag.Bytes(l)
		spoilBytes(first)
		if third, _ := frag.Bytes(l); !bytes.Equal(second, saidOf(l)) || !bytes.Equal(third, saidOf(l)) {
			t.Fatalf("the bytes of two answers share memory: %s", brief(l))
		}
	}
}

// P9.3

func wantTaken(t *testing.T, b []byte, want []api.Item, behind []byte) {
	t.Helper()
	l, rest, e := frag.Take(b)
	if e != api.OK || !equal(l, want) || !bytes.Equal(rest, behind) {
		t.Errorf("Take(% x): %s, % x, error %d; want %s, % x", b, brief(l), rest, e, brief(want), behind)
	}
	if len(behind) > 0 {
		wantNotParsed(t, b)
		return
	}
	if l, e = frag.Parse(b); e != api.OK || !equal(l, want) {
		t.Errorf("Parse(% x): %s, error %d; want %s", b, brief(l), e, brief(want))
	}
}

func wantNotParsed(t *testing.T, b []byte) {
	t.Helper()
	if l, e := frag.Parse(b); e != api.ErrRecord || len(l) != 0 {
		t.Errorf("Parse(% x): %s, error %d; want error %d", b, brief(l), e, api.ErrRecord)
	}
}

func wantNone(t *testing.T, b []byte) {
	t.Helper()
	if l, rest, e := frag.Take(b); e != api.ErrRecord || len(l) != 0 || len(rest) != 0 {
		t.Errorf("Take(% x): %s, % x, error %d; want error %d", b, brief(l), rest, e, api.ErrRecord)
	}
	wantNotParsed(t, b)
}

// asTheWordsSay wants that just so much is taken of b as the chapter's words say.
func asTheWordsSay(t *testing.T, b []byte) {
	t.Helper()
	if l, k := takenOf(b); k > 0 {
		wantTaken(t, b, l, b[k:])
	} else {
		wantNone(t, b)
	}
}

func TestTakeAndWhatIsBehind(t *testing.T) {
	for _, l := range rights() {
		for _, behind := range [][]byte{nil, {0}, {0, 0}, {2}, {128}, {255, 255}, saidOf(l)} {
			wantTaken(t, slices.Concat(saidOf(l), behind), l, behind)
		}
	}
}

func TestTakeOfNoItems(t *testing.T) {
	wantTaken(t, []byte{0}, nil, nil)
	wantTaken(t, []byte{0, 0}, nil, []byte{0})
	wantTaken(t, []byte{0, 2, 2, 97, 0, 0, 0}, nil, []byte{2, 2, 97, 0, 0, 0})
}

func TestTakeOfBytesThatEndWithin(t *testing.T) {
	wantNone(t, nil)
	wantNone(t, []byte{})
	r := chance()
	for _, l := range append(rights()[:300], drawn(r, 2), drawn(r, 5), drawn(r, 40)) {
		b := saidOf(l)
		for k := range min(len(b), 3000) {
			wantNone(t, b[:k]) // the end stands in the spare room
			wantNone(t, b[:k:k])
		}
	}
}

// Bytes of fragments of no right form, for a reason that bytes can say, or for one that they can't.
func TestTakeOfBytesOfOthers(t *testing.T) {
	for _, l := range wrongs() {
		asTheWordsSay(t, saidOf(l))
		asTheWordsSay(t, append(saidOf(l), 0))
	}
	for _, s := range wrongNames() {
		for _, x := range []api.Item{task(s), task("a", s), task("a", "b", s), mapOver(s, "a", 1), mapOver("m", s, 1), mapOver("m", "a", 1, s)} {
			wantNone(t, saidOf([]api.Item{x}))
			wantNone(t, saidOf([]api.Item{task("a"), x, task("b")}))
		}
	}
}

func TestTakeByHowMany(t *testing.T) {
	for n := range 100 {
		wantTakenIf(t, n <= 40, slices.Repeat([]api.Item{task("a")}, n))
		wantTakenIf(t, n <= 20, []api.Item{task("a", several(n)...)})
		wantTakenIf(t, n <= 20, []api.Item{task("a"), mapOver("m", "a", 1, names(n, "b")...), task("b")})
		wantTakenIf(t, n >= 1 && n <= 20, []api.Item{task(strings.Repeat("a", n))})
		wantTakenIf(t, n >= 1 && n <= 20, []api.Item{task("a", strings.Repeat("a", n))})
		wantTakenIf(t, n >= 1 && n <= 20, []api.Item{mapOver("m", strings.Repeat("a", n), 1)})
	}
	for n := -500; n <= 1000; n++ {
		wantTakenIf(t, n >= 0 && n <= 400, []api.Item{withQuota(task("a"), n)})
		wantTakenIf(t, n >= 0 && n <= 400, []api.Item{withQuota(mapOver("m", "a", 1), n), task("b")})
		wantTakenIf(t, n >= 0 && n <= 40, []api.Item{mapOver("m", "a", n)})
	}
}

// wantTakenIf wants that a fragment's bytes are taken, if it is of a right form, and that they are not, if it isn't.
func wantTakenIf(t *testing.T, right bool, l []api.Item) {
	t.Helper()
	if right {
		wantTaken(t, saidOf(l), l, nil)
		wantTaken(t, append(saidOf(l), 0), l, []byte{0})
	} else {
		wantNone(t, saidOf(l))
		wantNone(t, append(saidOf(l), 0))
	}
}

// behindAll are bytes that something may be taken of, whatever is ahead of them.
var behindAll = slices.Concat(bytes.Repeat([]byte{2, 97, 0, 0, 0}, 100), bytes.Repeat([]byte{0}, 500))

// mayNotBe are numbers of which none may be how many there are, nor a kind, nor any other number of an item; with some their lowest bits may.
func mayNotBe() []int64 {
	return []int64{-1, -2, -3, -20, -21, -40, -41, -64, -255, -256, -400, 401, 402, 512, 513, 1 << 16, 1<<16 + 1, 1 << 31, 1 << 32, 1<<32 + 1, 1<<32 + 2, 1 << 40, math.MaxInt64, math.MaxInt64 - 1, math.MinInt64, math.MinInt64 + 1, math.MinInt64 + 2}
}

// wantNoneWith wants that a number can't be taken where it stands, whatever is behind it.
func wantNoneWith(t *testing.T, ahead []byte, n int64, behind []byte) {
	t.Helper()
	wantNone(t, slices.Concat(ahead, num(n), behind))
	wantNone(t, slices.Concat(ahead, num(n), behindAll))
	wantNone(t, slices.Concat(ahead, num(n)))
}

// place is one of a fragment's numbers: what is ahead of it and behind it, how great it may be, and one that it is.
type place struct {
	what          string
	ahead, behind []byte
	most, one     int64
}

func places() []place {
	return []place{
		{"how many items", nil, []byte{2, 97, 0, 0, 0}, 40, 1},
		{"a name's length", []byte{2}, []byte{97, 0, 0, 0}, 20, 1},
		{"a kind", []byte{2, 2, 97}, []byte{0, 0}, 1, 0},
		{"how many names it is after", []byte{2, 2, 97, 0}, []byte{2, 97, 0}, 20, 1},
		{"the length of one of these", []byte{2, 2, 97, 0, 2}, []byte{97, 0}, 20, 1},
		{"a quota", []byte{2, 2, 97, 0, 0}, nil, 400, 7},
		{"a map's quota", []byte{2, 2, 97, 2, 0}, []byte{2, 98, 0}, 400, 7},
		{"the length of what it is over", []byte{2, 2, 97, 2, 0, 0}, []byte{98, 0}, 20, 1},
		{"a width", []byte{2, 2, 97, 2, 0, 0, 2, 98}, nil, 40, 7},
		{"a second item's kind", []byte{4, 2, 97, 0, 0, 0, 2, 98}, []byte{0, 0}, 1, 0},
		{"a second item's quota", []byte{4, 2, 97, 2, 0, 0, 2, 98, 6, 2, 98, 0, 0}, nil, 400, 7},
	}
}

func TestTakeOfNumbersThatMayNotBe(t *testing.T) {
	for _, c := range places() {
		if _, k := takenOf(slices.Concat(c.ahead, num(c.one), c.behind)); k == 0 {
			t.Fatalf("the test's own bytes are none: %s", c.what)
		}
		for _, n := range append(mayNotBe(), c.most+1, c.most+2, c.most+256, c.one+256, c.one+1<<32) {
			if n < 0 || n > c.most { // a quota may be 256 more
				wantNoneWith(t, c.ahead, n, c.behind)
			}
		}
		for n := range c.most + 300 {
			asTheWordsSay(t, slices.Concat(c.ahead, num(n), c.behind))
			asTheWordsSay(t, slices.Concat(c.ahead, num(n), behindAll))
		}
	}
}

func TestTakeOfNumbersThatAreSaidOtherwise(t *testing.T) {
	for _, c := range places() {
		otherwise := num(c.one)
		otherwise[len(otherwise)-1] |= 128
		for _, more := range [][]byte{{0}, {128, 0}, {128, 128, 128, 128, 128, 128, 128, 128, 128, 0}, bytes.Repeat([]byte{128}, 20)} {
			b := slices.Concat(c.ahead, otherwise, more, c.behind)
			if _, k := takenOf(b); k != 0 {
				t.Fatalf("the test's own bytes are some: %s", c.what)
			}
			wantNone(t, b)
			wantNone(t, append(b, behindAll...))
		}
	}
}

func TestTakeOfKindsThatAreNone(t *testing.T) {
	for kind := int64(-300); kind < 600; kind++ {
		for _, behind := range [][]byte{{0, 0}, {0, 0, 2, 98, 6}, {2, 2, 98, 2, 2, 98, 6}} {
			b := slices.Concat([]byte{2, 2, 97}, num(kind), behind)
			if kind == 0 || kind == 1 {
				asTheWordsSay(t, b)
			} else {
				wantNone(t, b)
			}
		}
	}
}

// Bytes that say much more than they have, or may have, are left.
func TestTakeOfGreatBytes(t *testing.T) {
	for _, one := range [][]byte{{80}, {255}, {128}, {80, 2, 97, 0, 40}, {2, 97}, {80, 40}, num(math.MaxInt64), num(1 << 31)} {
		b := bytes.Repeat(one, 1<<20)
		if l, rest, e := frag.Take(b); e != api.ErrRecord || len(l) != 0 || len(rest) != 0 {
			t.Errorf("Take of % x, and so on: %s, error %d", one, brief(l), e)
		}
		if l, e := frag.Parse(b); e != api.ErrRecord || len(l) != 0 {
			t.Errorf("Parse of % x, and so on: %s, error %d", one, brief(l), e)
		}
	}
	b := bytes.Repeat([]byte{2, 2, 97, 0, 0, 0}, 1<<20)
	if l, rest, e := frag.Take(b); e != api.OK || !equal(l, []api.Item{task("a")}) || len(rest) != len(b)-6 {
		t.Errorf("Take of a task, and many bytes: %s, %d bytes behind, error %d", brief(l), len(rest), e)
	}
}

func TestWhatIsBehindSharesMemory(t *testing.T) {
	for _, l := range rights() {
		said := saidOf(l)
		room := slices.Concat(said, []byte{1, 2, 3, 51, 52, 53})
		kept := bytes.Clone(room)
		end := len(said) + 3
		_, rest, _ := frag.Take(room[:end])
		rest[0] ^= 1
		if room[len(said)] != kept[len(said)]^1 {
			t.Fatalf("what is behind does not share memory with what was handed in: %s", brief(l))
		}
		spoilBytes(append(rest, 4, 5, 6))
		if !bytes.Equal(room[:len(said)], kept[:len(said)]) || !bytes.Equal(room[end:], kept[end:]) {
			t.Fatalf("what is put behind what is behind changes the spare room: %s", brief(l))
		}
	}
}

func TestAFragmentTakenIsInMemoryOfItsOwn(t *testing.T) {
	for _, l := range rights() {
		b := append(saidOf(l), 1, 2)
		kept := bytes.Clone(b)
		first, _, _ := frag.Take(b)
		second, _, _ := frag.Take(b)
		third, _ := frag.Parse(b[:len(b)-2])
		spoil(first)
		if !bytes.Equal(b, kept) || !equal(second, l) || !equal(third, l) {
			t.Fatalf("a fragment that was taken shares memory with the bytes, or with another one: %s", brief(l))
		}
		spoilBytes(b)
		if !equal(second, l) || !equal(third, l) {
			t.Fatalf("a fragment that was taken changes with the bytes: %s", brief(l))
		}
		wantListsApart(t, second)
		wantListsApart(t, third)
	}
}

func TestBytesHandedInStay(t *testing.T) {
	room := slices.Concat(saidOf([]api.Item{withQuota(mapOver("m", "a", 3, "b", "c"), 100), task("x")}), []byte{128, 0, 2, 2, 97, 0, 0, 0}, bytes.Repeat([]byte{255}, 12), []byte{4, 2, 97, 0, 2, 2})
	kept := bytes.Clone(room)
	for at := range room {
		for end := at; end <= len(room); end++ {
			l, rest, e := frag.Take(room[at:end])
			l2, rest2, e2 := frag.Take(bytes.Clone(room[at:end]))
			if !equal(l, l2) || !bytes.Equal(rest, rest2) || e != e2 {
				t.Fatalf("Take of % x hangs on what is in the spare room", room[at:end])
			}
			l, e = frag.Parse(room[at:end])
			l2, e2 = frag.Parse(bytes.Clone(room[at:end]))
			if !equal(l, l2) || e != e2 {
				t.Fatalf("Parse of % x hangs on what is in the spare room", room[at:end])
			}
			if !bytes.Equal(room, kept) {
				t.Fatalf("Take or Parse of % x changed the bytes", kept[at:end])
			}
		}
	}
}

// each tells all rows of so many bytes, each of which is one of some.
func each(some []byte, long int, tell func(b []byte)) {
	all := 1
	for range long {
		all *= len(some)
	}
	b := make([]byte, long)
	for i := range all {
		for k, left := 0, i; k < long; k++ {
			b[k] = some[left%len(some)]
			left /= len(some)
		}
		tell(b)
	}
}

func TestTakeOfAllSmallBytes(t *testing.T) {
	say := func(b []byte) { asTheWordsSay(t, b) }
	whole := make([]byte, 256)
	for i := range whole {
		whole[i] = byte(i)
	}
	for long := range 3 {
		each(whole, long, say)
	}
	for long := 3; long <= 8; long++ {
		each([]byte{0, 2, 4, 97}, long, say)
	}
	for long := 3; long <= 6; long++ {
		each([]byte{0, 1, 2, 65, 97, 128}, long, say)
	}
	each([]byte{0, 2, 95, 80}, 5, func(b []byte) { say(append([]byte{2, 2, 97}, b...)) })
	each([]byte{0, 2, 98, 82, 161, 6}, 5, func(b []byte) { say(append([]byte{2, 2, 97, 2}, b...)) })
}

func TestTakeOfDrawnBytes(t *testing.T) {
	r := chance()
	some := []byte{0, 0, 0, 0, 2, 2, 2, 2, 4, 1, 80, 97, 97, 98, 128, 255}
	for range 100000 {
		b := make([]byte, r.IntN(20))
		for i := range b {
			b[i] = some[r.IntN(len(some))]
		}
		asTheWordsSay(t, b)
	}
	// Bytes of fragments, with one of them another one, out, or in twice.
	for range 30000 {
		b := saidOf(drawn(r, 1+r.IntN(3)))
		at := r.IntN(len(b))
		switch r.IntN(3) {
		case 0:
			b[at] = byte(r.Uint32())
		case 1:
			b = slices.Delete(b, at, at+1)
		case 2:
			b = slices.Insert(b, at, some[r.IntN(len(some))])
		}
		asTheWordsSay(t, b)
	}
}

// What was left at one call does not count at the next one.
func TestTakeBehindALeft(t *testing.T) {
	for _, left := range [][]byte{nil, {82}, {80, 2, 97}, bytes.Repeat([]byte{80}, 20)} {
		for range 100 {
			wantNone(t, left)
		}
		wantTaken(t, saidOf(greatest()), greatest(), nil)
	}
}

// P9.4

func TestWhatIsSaidIsTaken(t *testing.T) {
	for _, l := range rights() {
		b, _ := frag.Bytes(l)
		m, e := frag.Parse(b)
		if e != api.OK || !frag.Same(l, m) || !equal(l, m) {
			t.Errorf("what is said is taken as %s, error %d: %s", brief(m), e, brief(l))
		}
	}
	var b []byte // one behind the other
	all := rights()[:300]
	for _, l := range all {
		b = frag.Put(b, l)
	}
	for _, l := range all {
		m, rest, e := frag.Take(b)
		if e != api.OK || !frag.Same(l, m) {
			t.Fatalf("what is put is taken as %s, error %d: %s", brief(m), e, brief(l))
		}
		b = rest
	}
	if len(b) != 0 {
		t.Errorf("%d bytes are behind all that was put", len(b))
	}
}

// wantSaidJustSo wants that what is taken of b is said with just the bytes that it was taken of.
func wantSaidJustSo(t *testing.T, b []byte) {
	t.Helper()
	l, rest, e := frag.Take(b)
	if e != api.OK {
		return
	}
	said, e := frag.Bytes(l)
	if e != api.OK || !frag.Right(l) || !bytes.Equal(said, b[:len(b)-len(rest)]) {
		t.Errorf("what is taken of % x is said % x, error %d", b, said, e)
	}
}

func TestWhatIsTakenIsSaidJustSo(t *testing.T) {
	for long := range 9 {
		each([]byte{0, 2, 4, 97}, long, func(b []byte) { wantSaidJustSo(t, b) })
	}
	r := chance()
	for range 20000 {
		b := saidOf(drawn(r, 1+r.IntN(3)))
		b[r.IntN(len(b))] = byte(r.Uint32())
		wantSaidJustSo(t, b)
	}
}

func TestUnlikeFragmentsHaveUnlikeBytes(t *testing.T) {
	said := map[string][]api.Item{}
	ask := func(l []api.Item) {
		if !frag.Right(l) {
			return
		}
		b, _ := frag.Bytes(l)
		if other, ok := said[string(b)]; ok && !equal(other, l) {
			t.Errorf("% x are the bytes of %s and of %s", b, brief(other), brief(l))
		}
		said[string(b)] = l
	}
	for _, l := range rights() {
		ask(l)
	}
	r := chance()
	for range 300 {
		l := drawn(r, r.IntN(4))
		ask(l)
		for _, other := range likes(l) {
			ask(other)
		}
	}
}

// A fragment's bytes are not the beginning of those of an unlike one, or what is taken would not be told.
func TestNoBytesBeginOthers(t *testing.T) {
	var all [][]byte
	for _, l := range rights()[:600] {
		b, _ := frag.Bytes(l)
		all = append(all, b)
	}
	for _, a := range all {
		for _, b := range all {
			if bytes.HasPrefix(b, a) && len(a) != len(b) {
				t.Errorf("% x begin % x", a, b)
			}
		}
	}
}

// The chapter's examples.

func TestExamples(t *testing.T) {
	for _, c := range []struct {
		l    []api.Item
		want []byte
	}{
		{nil, []byte{0}},
		{[]api.Item{{Name: "a"}}, []byte{2, 2, 97, 0, 0, 0}},
		{[]api.Item{{Name: "m", Kind: api.KindMap, Over: "a", Width: 3, After: []string{"b"}, Quota: 1}}, []byte{2, 2, 109, 2, 2, 2, 98, 2, 2, 97, 6}},
	} {
		if b, e := frag.Bytes(c.l); e != api.OK || !bytes.Equal(b, c.want) {
			t.Errorf("Bytes: %v, error %d, want %v", b, e, c.want)
		}
		wantTaken(t, c.want, c.l, nil)
	}
	for _, s := range []string{"A", "", strings.Repeat("a", 21)} {
		if frag.Name(s) {
			t.Errorf("Name(%q): true", s)
		}
	}
}
