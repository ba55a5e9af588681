package snap_test

import (
	"bytes"
	"math"
	"slices"
	"strings"
	"testing"

	"foreman/api"
	"foreman/snap"
)

// spoilBytes writes over all that b reaches, its spare room too.
func spoilBytes(b []byte) {
	b = b[:cap(b)]
	for i := range b {
		b[i] ^= 0xA5
	}
}

// P11.2

func TestBytesOfRightForms(t *testing.T) {
	for _, s := range append(rights(), nodesOf(4799), nodesOf(4800)) {
		for _, given := range []api.State{s, roomy(s)} {
			b, e := snap.Bytes(given)
			if e != api.OK || !bytes.Equal(b, saidOf(s)) {
				t.Errorf("Bytes: % x, error %d, want % x: %s", b, e, saidOf(s), brief(s))
			}
		}
	}
}

func TestBytesOfOthers(t *testing.T) {
	for _, s := range slices.Concat(wrongs(), oddOnes(), []api.State{nodesOf(4801), nodesOf(6000)}) {
		if b, e := snap.Bytes(s); len(b) != 0 || e != api.ErrArg {
			t.Errorf("Bytes of a state of no right form: % x, error %d: %s", b, e, brief(s))
		}
	}
}

func TestBytesAreInMemoryOfTheirOwn(t *testing.T) {
	for _, s := range rights() {
		first, _ := snap.Bytes(s)
		second, _ := snap.Bytes(s)
		spoilBytes(first)
		if third, _ := snap.Bytes(s); !bytes.Equal(second, saidOf(s)) || !bytes.Equal(third, saidOf(s)) {
			t.Fatalf("the bytes of two answers share memory: %s", brief(s))
		}
	}
}

func wantParsed(t *testing.T, b []byte, want api.State) {
	t.Helper()
	if s, e := snap.Parse(b); e != api.OK || !equal(s, want) {
		t.Errorf("Parse(% x): %s, error %d; want %s", b, brief(s), e, brief(want))
	}
}

func wantNone(t *testing.T, b []byte) {
	t.Helper()
	if s, e := snap.Parse(b); e != api.ErrRecord || !equal(s, api.State{}) {
		t.Errorf("Parse(% x): %s, error %d; want error %d", b, brief(s), e, api.ErrRecord)
	}
}

// asTheWordsSay wants that b is parsed just as the chapter's words say.
func asTheWordsSay(t *testing.T, b []byte) {
	t.Helper()
	if s, ok := parsedOf(b); ok {
		wantParsed(t, b, s)
	} else {
		wantNone(t, b)
	}
}

func TestParseOfRightForms(t *testing.T) {
	for _, s := range append(rights(), nodesOf(4799), nodesOf(4800)) {
		wantParsed(t, saidOf(s), s)
	}
}

// The bytes of a state of no right form, laid out as if it were of one, are those of none.
func TestParseOfOthers(t *testing.T) {
	for _, s := range append(changed(), oddOnes()...) {
		asTheWordsSay(t, saidOf(s))
	}
	for _, many := range []int{4801, 4802, 5000, 9600} {
		wantNone(t, saidOf(nodesOf(many)))
	}
}

func TestParseOfBytesThatEndWithin(t *testing.T) {
	wantNone(t, nil)
	wantNone(t, []byte{})
	r := chance()
	some := base()
	for range 100 {
		some = append(some, small(r))
	}
	for range 20 {
		some = append(some, drawn(r))
	}
	for _, s := range some {
		b := saidOf(s)
		for n := range b {
			wantNone(t, b[:n])
			wantNone(t, bytes.Clone(b[:n])) // without the rest in its spare room
		}
	}
	b := saidOf(nodesOf(4800))
	for _, n := range []int{9, 10, 22, 1000, len(b) / 2, len(b) - 14, len(b) - 1} {
		wantNone(t, b[:n])
	}
}

func TestParseOfBytesBehind(t *testing.T) {
	r := chance()
	some := append(base(), nodesOf(100))
	for range 50 {
		some = append(some, small(r))
	}
	for _, s := range some {
		b := saidOf(s)
		for _, more := range [][]byte{{0}, {2}, {0, 0}, {128}, {255}, b, saidOf(api.State{}), saidOfNode(nodeX())} {
			wantNone(t, slices.Concat(b, more))
		}
		for c := range 256 {
			wantNone(t, slices.Concat(b, []byte{byte(c)}))
		}
	}
}

// cut is a state's bytes, number by number; of a node the texts and the value are one piece each.
func cut(s api.State) [][]byte {
	c := s.Config
	var l [][]byte
	for _, n := range []int64{int64(c.Quota), int64(c.Depth), int64(c.Width), int64(c.Retry), int64(c.Flows), int64(s.Flows), s.Token, int64(len(s.Nodes))} {
		l = append(l, num(n))
	}
	for _, n := range s.Nodes {
		l = append(l, text(n.ID), text(n.Name), nums(int(n.Kind)), nums(n.Flow), nums(n.Owner), nums(n.At), nums(len(n.After)))
		for _, p := range n.After {
			l = append(l, nums(p))
		}
		l = append(l, nums(n.Width), nums(n.Quota), nums(int(n.Stand)), nums(n.Fails), num(n.Token))
		v := saidOfNode(api.Node{ID: "x", Value: n.Value})
		l = append(l, v[len(saidOfNode(api.Node{ID: "x"}))-2:])
	}
	return l
}

func TestTheTestsOwnPieces(t *testing.T) {
	for _, s := range base() {
		if !bytes.Equal(slices.Concat(cut(s)...), saidOf(s)) {
			t.Fatalf("the pieces of a state's bytes are others: %s", brief(s))
		}
	}
}

// Each number of a state's bytes, and each length, as another one.
func TestParseOfNumbersThatMayNotBe(t *testing.T) {
	var some []int
	for n := -3; n < 45; n++ {
		some = append(some, n)
	}
	for _, most := range []int{40, 400, 4799, 4800, 999999, math.MaxInt64} {
		some = append(some, around(0, most)...)
	}
	for _, s := range []api.State{{}, {Nodes: []api.Node{nodeX()}}, ordinary(), greatest()} {
		pieces := cut(s)
		for i := range pieces {
			for _, n := range some {
				asTheWordsSay(t, slices.Concat(slices.Concat(pieces[:i]...), nums(n), slices.Concat(pieces[i+1:]...)))
			}
		}
	}
}

// A number that is said otherwise than in its one way is none; so is one that is out, or twice there.
func TestParseOfNumbersSaidOtherwise(t *testing.T) {
	for _, s := range base() {
		pieces := cut(s)
		for i, p := range pieces {
			ahead, behind := slices.Concat(pieces[:i]...), slices.Concat(pieces[i+1:]...)
			long := slices.Concat(p[:len(p)-1], []byte{p[len(p)-1] | 128, 0})
			if len(p) < 10 {
				wantNone(t, slices.Concat(ahead, long, behind))
				asTheWordsSay(t, slices.Concat(ahead, []byte{p[0] | 128}, p, behind))
			}
			for _, bad := range [][]byte{bytes.Repeat([]byte{128}, 11), bytes.Repeat([]byte{255}, 11), append(bytes.Repeat([]byte{255}, 9), 2), append(bytes.Repeat([]byte{128}, 9), 2), append(bytes.Repeat([]byte{255}, 10), 1), {128, 0}, {129, 0}} {
				wantNone(t, slices.Concat(ahead, bad, behind))
			}
			asTheWordsSay(t, slices.Concat(ahead, behind))
			asTheWordsSay(t, slices.Concat(ahead, p, p, behind))
		}
	}
}

func TestParseByTexts(t *testing.T) {
	ahead, behind := saidOf(nodesOf(1))[:8], saidOf(nodesOf(1))[11:]
	node := func(id, name []byte) []byte { return slices.Concat(ahead, id, name, behind) }
	want := func(b []byte, so bool) {
		t.Helper()
		if _, ok := parsedOf(b); ok != so {
			t.Fatalf("the test's own words: % x: %v", b, ok)
		}
		asTheWordsSay(t, b)
	}
	for n := range 600 {
		long := text(strings.Repeat("x", n))
		want(node(long, text("")), n >= 1 && n <= 400)
		want(node(text("x"), long), n <= 20)
	}
	for c := range 256 {
		one := text(string([]byte{byte(c)}))
		want(node(one, text("")), c >= 33 && c <= 126)
		want(node(text("x"), one), nameForm.Match([]byte{byte(c)}))
	}
	for _, s := range wrongIDs() {
		want(node(text(s), text("a")), false)
	}
	for _, s := range wrongNames() {
		want(node(text("x"), text(s)), false)
	}
	for _, n := range []int64{-1, -2, -64, 401, 1 << 31, 1 << 32, 1<<32 + 1, math.MaxInt64, math.MinInt64} {
		want(node(slices.Concat(num(n), []byte("x")), text("")), false)
		want(node(text("x"), slices.Concat(num(n), []byte("x"))), false)
	}
}

// The bytes of a value that is not right are none of a state's.
func TestParseOfValuesThatAreNotRight(t *testing.T) {
	deep := slices.Concat(bytes.Repeat([]byte{4, 2}, 6), []byte{0, 0}) // 7 deep
	long := slices.Concat([]byte{2}, text(strings.Repeat("a", 101)))
	much := slices.Concat([]byte{4}, num(41), bytes.Repeat([]byte{0, 0}, 41))
	for _, s := range [][]api.Node{{nodeX()}, {nodeX(), nodeX()}} {
		for _, v := range [][]byte{{}, {0}, {6, 0}, {1, 0}, {2, 1}, {4, 1}, {128, 0, 0}, {2, 4, 97}, {4, 2, 6, 0}, deep, long, much} {
			b := saidOf(api.State{Nodes: s})
			wantNone(t, slices.Concat(b[:len(b)-2], v))
			first := len(saidOf(nodesOf(1)))
			wantNone(t, slices.Concat(b[:first-2], v, b[first:]))
		}
	}
}

// Bytes that say many nodes, but have few of them, cost no more than what they have.
func TestParseOfNodesThatAreNotThere(t *testing.T) {
	for range 20000 {
		wantNone(t, slices.Concat(make([]byte, 7), nums(4800)))
		wantNone(t, slices.Concat(make([]byte, 7), nums(4800), saidOfNode(nodeX())))
	}
	for many := 1; many < 5000; many += 97 {
		wantNone(t, slices.Concat(make([]byte, 7), nums(many+1), bytes.Repeat(saidOfNode(nodeX()), many)))
		wantNone(t, slices.Concat(make([]byte, 7), nums(many-1), bytes.Repeat(saidOfNode(nodeX()), many)))
	}
}

func TestBytesHandedInStay(t *testing.T) {
	r := chance()
	ask := func(b []byte) {
		given := append(bytes.Clone(b), "spare room, and no more"...)
		before := bytes.Clone(given)
		snap.Parse(given[:len(b)])
		if !bytes.Equal(given, before) {
			t.Fatalf("Parse(% x) changed what was handed in, or its spare room", b)
		}
	}
	for _, s := range rights() {
		b := saidOf(s)
		ask(b)
		ask(b[:r.IntN(len(b))])
	}
}

func TestWhatIsParsedIsInMemoryOfItsOwn(t *testing.T) {
	for _, s := range rights() {
		given := append(saidOf(s), "spare room"...)[:len(saidOf(s))]
		kept := bytes.Clone(given)
		first, _ := snap.Parse(given)
		second, _ := snap.Parse(given)
		spoil(first)
		if !bytes.Equal(given, kept) || !equal(second, s) {
			t.Fatalf("what is parsed shares memory with the bytes, or with another answer: %s", brief(s))
		}
		spoilBytes(given)
		if !equal(second, s) {
			t.Fatalf("what is parsed changes with the bytes: %s", brief(s))
		}
		fill(second)
		if !equal(second, s) {
			t.Fatalf("lists of one answer share memory: %s", brief(s))
		}
	}
}

// each asks all bytes of that length, of those some, behind those ahead.
func each(ahead, some []byte, long int, ask func(b []byte)) {
	b := append(bytes.Clone(ahead), make([]byte, long)...)
	var from func(at int)
	from = func(at int) {
		if at == len(b) {
			ask(b)
			return
		}
		for _, c := range some {
			b[at] = c
			from(at + 1)
		}
	}
	from(len(ahead))
}

func TestParseOfAllSmallBytes(t *testing.T) {
	all := make([]byte, 256)
	for i := range all {
		all[i] = byte(i)
	}
	for long := range 3 {
		each(nil, all, long, func(b []byte) { asTheWordsSay(t, b) })
	}
	for long := range 10 {
		each(nil, []byte{0, 1, 2}, long, func(b []byte) { asTheWordsSay(t, b) })
	}
	// Behind a state's first numbers: how many nodes, and the first of them.
	for long := range 5 {
		each(make([]byte, 7), []byte{0, 1, 2, 4, 'x', 128}, long, func(b []byte) { asTheWordsSay(t, b) })
	}
	x := saidOf(nodesOf(1))
	for at := 8; at < len(x)-2; at++ {
		for _, c := range all {
			for _, d := range []byte{0, 1, 2, 3, 12, 14, 20, 22, 24, 26, 42, 44, 'x', 128, 255} {
				b := bytes.Clone(x)
				b[at], b[at+1] = c, d
				asTheWordsSay(t, b)
			}
		}
	}
}

func TestParseOfDrawnBytes(t *testing.T) {
	r := chance()
	some := []byte{0, 0, 0, 0, 0, 1, 2, 2, 4, 'x', 97, 128, 255}
	for range 100000 {
		b := make([]byte, r.IntN(30))
		for i := range b {
			b[i] = some[r.IntN(len(some))]
		}
		asTheWordsSay(t, b)
	}
	// Bytes of states, with one of them another one, out, or in twice.
	for range 50000 {
		b := saidOf(small(r))
		at := r.IntN(len(b))
		switch r.IntN(3) {
		case 0:
			b[at] = byte(r.Uint32())
		case 1:
			b = slices.Delete(b, at, at+1)
		case 2:
			b = slices.Insert(b, at, some[r.IntN(len(some))])
		}
		asTheWordsSay(t, b)
	}
}

// What could not be parsed at one call does not count at the next one.
func TestParseBehindBytesOfNone(t *testing.T) {
	for _, b := range [][]byte{nil, make([]byte, 9), {0, 0, 0, 0, 0, 0, 0, 2}, saidOf(ordinary())[:50], bytes.Repeat([]byte{4}, 50)} {
		for range 100 {
			wantNone(t, b)
		}
		for _, s := range base() {
			wantParsed(t, saidOf(s), s)
		}
	}
}

// P11.3

func TestWhatIsSaidIsTaken(t *testing.T) {
	for _, s := range append(rights(), nodesOf(4800)) {
		b, _ := snap.Bytes(s)
		p, e := snap.Parse(b)
		if e != api.OK || !snap.Same(s, p) || !equal(s, p) {
			t.Errorf("what is said is taken as %s, error %d: %s", brief(p), e, brief(s))
		}
	}
}

// wantSaidJustSo wants that what is parsed of b is said with just these bytes.
func wantSaidJustSo(t *testing.T, b []byte) {
	t.Helper()
	s, e := snap.Parse(b)
	if e != api.OK {
		return
	}
	if said, e := snap.Bytes(s); e != api.OK || !snap.Right(s) || !bytes.Equal(said, b) {
		t.Errorf("what is parsed of % x is said % x, error %d", b, said, e)
	}
}

func TestWhatIsTakenIsSaidJustSo(t *testing.T) {
	for long := range 10 {
		each(nil, []byte{0, 2, 4}, long, func(b []byte) { wantSaidJustSo(t, b) })
	}
	r := chance()
	for range 50000 {
		b := saidOf(small(r))
		b[r.IntN(len(b))] = byte(r.Uint32())
		wantSaidJustSo(t, b)
	}
}

func TestUnlikeStatesHaveUnlikeBytes(t *testing.T) {
	said := map[string]api.State{}
	ask := func(s api.State) {
		if !snap.Right(s) {
			return
		}
		b, _ := snap.Bytes(s)
		if other, ok := said[string(b)]; ok && !equal(other, s) {
			t.Errorf("% x are the bytes of %s and of %s", b, brief(other), brief(s))
		}
		said[string(b)] = s
	}
	for _, s := range rights() {
		ask(s)
	}
	r := chance()
	for range 100 {
		s := small(r)
		ask(s)
		for _, other := range likes(s) {
			ask(other)
		}
	}
}

// The chapter's examples.

func TestExamples(t *testing.T) {
	nothing := make([]byte, 8)
	x := slices.Concat(make([]byte, 7), []byte{2}, []byte{2, 120, 0, 0, 0, 1, 0, 0, 0, 0, 0, 0, 0, 0, 0})
	for _, c := range []struct {
		s    api.State
		want []byte
	}{
		{api.State{}, nothing},
		{api.State{Nodes: []api.Node{{ID: "x", Owner: -1}}}, x},
	} {
		if b, e := snap.Bytes(c.s); e != api.OK || !bytes.Equal(b, c.want) {
			t.Errorf("Bytes: %v, error %d, want %v", b, e, c.want)
		}
		wantParsed(t, c.want, c.s)
	}
	wantNone(t, make([]byte, 9))
}
