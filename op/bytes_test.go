package op_test

import (
	"bytes"
	"math"
	"slices"
	"strings"
	"testing"

	"foreman/api"
	"foreman/op"
)

// spoilBytes writes over all that b reaches, its spare room too.
func spoilBytes(b []byte) {
	b = b[:cap(b)]
	for i := range b {
		b[i] ^= 0xA5
	}
}

// P10.2

func TestBytesOfRightForms(t *testing.T) {
	for _, o := range rights() {
		b, e := op.Bytes(o)
		if e != api.OK || !bytes.Equal(b, saidOf(o)) {
			t.Errorf("Bytes: % x, error %d, want % x: %s", b, e, saidOf(o), brief(o))
		}
	}
}

func TestBytesOfOthers(t *testing.T) {
	for _, o := range wrongs() {
		if b, e := op.Bytes(o); len(b) != 0 || e != api.ErrArg {
			t.Errorf("Bytes of an operation of no right form: % x, error %d: %s", b, e, brief(o))
		}
	}
}

func TestBytesAreInMemoryOfTheirOwn(t *testing.T) {
	for _, o := range rights() {
		first, _ := op.Bytes(o)
		second, _ := op.Bytes(o)
		spoilBytes(first)
		if third, _ := op.Bytes(o); !bytes.Equal(second, saidOf(o)) || !bytes.Equal(third, saidOf(o)) {
			t.Fatalf("the bytes of two answers share memory: %s", brief(o))
		}
	}
}

func wantParsed(t *testing.T, b []byte, want api.Op) {
	t.Helper()
	if o, e := op.Parse(b); e != api.OK || !equal(o, want) {
		t.Errorf("Parse(% x): %s, error %d; want %s", b, brief(o), e, brief(want))
	}
}

func wantNone(t *testing.T, b []byte) {
	t.Helper()
	if o, e := op.Parse(b); e != api.ErrRecord || !equal(o, api.Op{}) {
		t.Errorf("Parse(% x): %s, error %d; want error %d", b, brief(o), e, api.ErrRecord)
	}
}

// asTheWordsSay wants that b is parsed just as the chapter's words say.
func asTheWordsSay(t *testing.T, b []byte) {
	t.Helper()
	if o, ok := parsedOf(b); ok {
		wantParsed(t, b, o)
	} else {
		wantNone(t, b)
	}
}

func TestParseOfRightForms(t *testing.T) {
	for _, o := range rights() {
		wantParsed(t, saidOf(o), o)
	}
}

func TestParseOfBytesThatEndWithin(t *testing.T) {
	wantNone(t, nil)
	wantNone(t, []byte{})
	r := chance()
	some := append(base(), submit(400), submit(400, slices.Repeat([]api.Item{task("a", "b")}, 40)...), complete(strings.Repeat("x", 400), math.MaxInt64, list(words("a")), task("a")), cancel(strings.Repeat("x", 400)))
	for range 300 {
		some = append(some, small(r))
	}
	for _, o := range some {
		b := saidOf(o)
		for n := range b {
			wantNone(t, b[:n])
			wantNone(t, bytes.Clone(b[:n])) // without the rest in its spare room
		}
	}
}

func TestParseOfBytesBehind(t *testing.T) {
	r := chance()
	some := append(base(), submit(0), complete("x", 1, number(0)))
	for range 100 {
		some = append(some, small(r))
	}
	for _, o := range some {
		for _, behind := range [][]byte{{0}, {2}, {0, 0}, {128}, {255}, {6}, saidOf(o), saidOf(submit(3))} {
			wantNone(t, slices.Concat(saidOf(o), behind))
			wantNone(t, slices.Concat(behind, saidOf(o)))
		}
		for c := range 256 {
			wantNone(t, append(saidOf(o), byte(c)))
		}
	}
}

func TestParseOfKindsThatAreNone(t *testing.T) {
	for _, kind := range []int64{0, -1, -2, -3, -4, -5, 6, 7, 8, 63, 64, 127, 128, 255, 256, 256 + 1, 256 + 2, 256 + 5, 512 + 3, -256 + 1, -256 + 4, 1 << 32, 1<<32 + 2, 1<<62 + 5, math.MaxInt64, math.MinInt64, math.MinInt64 + 1} {
		wantNone(t, num(kind))
		for _, o := range base() {
			wantNone(t, slices.Concat(num(kind), saidOf(o)[1:]))
		}
	}
	// Each kind ahead of what is of each kind.
	for kind := range int64(300) {
		for _, o := range append(base(), submit(0), complete("x", 1, number(0))) {
			asTheWordsSay(t, slices.Concat(num(kind), saidOf(o)[1:]))
		}
	}
}

func TestParseByLengthOfTheID(t *testing.T) {
	long := strings.Repeat("x", 600)
	for _, ahead := range [][]byte{{4}, {6}, {8}, {10}} {
		var behind []byte
		switch ahead[0] {
		case 6:
			behind = []byte{2, 0, 0, 0}
		case 8:
			behind = []byte{2}
		}
		for n := range 600 {
			b := slices.Concat(ahead, text(long[:n]), behind)
			if _, ok := parsedOf(b); ok != (n >= 1 && n <= 400) {
				t.Fatalf("the test's own words: an id of %d bytes: %v", n, ok)
			}
			asTheWordsSay(t, b)
		}
		for _, n := range []int64{-1, -2, -300, 4, 401, 1 << 31, 1 << 32, 1<<32 + 1, math.MaxInt64, math.MinInt64} {
			wantNone(t, slices.Concat(ahead, num(n), []byte("x"), behind))
			wantNone(t, slices.Concat(ahead, num(n), behind))
		}
	}
}

func TestParseByBytesOfTheID(t *testing.T) {
	for c := range 256 {
		for _, s := range []string{string([]byte{byte(c)}), string([]byte{'x', byte(c)}), string([]byte{byte(c), 'x'})} {
			asTheWordsSay(t, slices.Concat([]byte{4}, text(s)))
			asTheWordsSay(t, slices.Concat([]byte{10}, text(s)))
			asTheWordsSay(t, slices.Concat([]byte{8}, text(s), []byte{2}))
			asTheWordsSay(t, slices.Concat([]byte{6}, text(s), []byte{2, 0, 0, 0}))
		}
	}
	for _, s := range wrongIDs() {
		wantNone(t, slices.Concat([]byte{4}, text(s)))
		wantNone(t, slices.Concat([]byte{6}, text(s), []byte{2, 0, 0, 0}))
		wantNone(t, slices.Concat([]byte{8}, text(s), []byte{2}))
		wantNone(t, slices.Concat([]byte{10}, text(s)))
	}
}

func TestParseByTokenAndQuota(t *testing.T) {
	for n := int64(-300); n < 1000; n++ {
		asTheWordsSay(t, slices.Concat([]byte{2, 0}, num(n)))
		asTheWordsSay(t, slices.Concat([]byte{8, 2, 'x'}, num(n)))
		asTheWordsSay(t, slices.Concat([]byte{6, 2, 'x'}, num(n), []byte{0, 0, 0}))
	}
	for _, n := range append(rightTokens(), wrongTokens()...) {
		fails, completes := slices.Concat([]byte{8, 2, 'x'}, num(n)), slices.Concat([]byte{6, 2, 'x'}, num(n), []byte{0, 0, 0})
		if n >= 1 {
			wantParsed(t, fails, fail("x", n))
			wantParsed(t, completes, complete("x", n, number(0)))
		} else {
			wantNone(t, fails)
			wantNone(t, completes)
		}
	}
	for _, n := range wrongQuotas() {
		wantNone(t, slices.Concat([]byte{2, 0}, num(int64(n))))
	}
}

// A number that is said otherwise than in its one way is none.
func TestParseOfNumbersSaidOtherwise(t *testing.T) {
	long := func(low byte, more ...byte) []byte { return append([]byte{low | 128}, more...) }
	for _, o := range base() {
		b := saidOf(o)
		wantNone(t, slices.Concat(long(b[0], 0), b[1:]))
		wantNone(t, slices.Concat(long(b[0], 128, 0), b[1:]))
	}
	wantNone(t, []byte{4, 130, 0, 'x'})
	wantNone(t, []byte{8, 2, 'x', 130, 0})
	wantNone(t, []byte{2, 0, 134, 0})
	wantNone(t, []byte{2, 128, 0, 6})
	wantNone(t, []byte{6, 2, 'x', 2, 128, 0, 0, 0})
	wantNone(t, []byte{6, 2, 'x', 2, 0, 128, 0, 0})
	wantNone(t, []byte{6, 2, 'x', 2, 0, 0, 128, 0})
	eleven := append(bytes.Repeat([]byte{255}, 10), 1)
	for _, ahead := range [][]byte{{}, {4}, {8, 2, 'x'}, {2, 0}, {6, 2, 'x'}} {
		wantNone(t, slices.Concat(ahead, eleven))
		wantNone(t, slices.Concat(ahead, bytes.Repeat([]byte{128}, 9), []byte{2}))
		wantNone(t, slices.Concat(ahead, bytes.Repeat([]byte{128}, 100)))
		wantNone(t, slices.Concat(ahead, bytes.Repeat([]byte{255}, 100)))
	}
}

// The bytes of a value, or of a fragment, that is not right, are none of an operation's.
func TestParseOfPartsThatAreNotRight(t *testing.T) {
	deep := slices.Concat(bytes.Repeat([]byte{4, 2}, 6), []byte{0, 0}) // 7 deep
	long := slices.Concat([]byte{2}, text(strings.Repeat("a", 101)))
	much := slices.Concat([]byte{4}, num(41), bytes.Repeat([]byte{0, 0}, 41))
	for _, v := range [][]byte{{6, 0}, {1, 0}, {2, 1}, {4, 1}, {128, 0, 0}, {2, 4, 97}, deep, long, much} {
		wantNone(t, slices.Concat([]byte{6, 2, 'x', 2}, v, []byte{0}))
		wantNone(t, slices.Concat([]byte{6, 2, 'x', 2}, v))
	}
	many := slices.Concat(num(41), bytes.Repeat([]byte{2, 97, 0, 0, 0}, 41))
	for _, l := range [][]byte{{1}, {82}, {2}, {2, 0, 0, 0, 0}, {2, 2, 'A', 0, 0, 0}, {2, 2, 97, 4, 0, 0}, {2, 2, 97, 0, 1, 0}, {2, 2, 97, 0, 0, 1}, {2, 2, 97, 2, 0, 0}, {2, 2, 97, 2, 0, 0, 0, 0}, {2, 2, 97, 0, 0, 128, 0}, many} {
		wantNone(t, slices.Concat([]byte{2}, l, []byte{0}))
		wantNone(t, slices.Concat([]byte{2}, l))
		wantNone(t, slices.Concat([]byte{6, 2, 'x', 2, 0, 0}, l))
	}
}

func TestBytesHandedInStay(t *testing.T) {
	r := chance()
	ask := func(b []byte) {
		given := append(bytes.Clone(b), "spare room, and no more"...)
		before := bytes.Clone(given)
		op.Parse(given[:len(b)])
		if !bytes.Equal(given, before) {
			t.Fatalf("Parse(% x) changed what was handed in, or its spare room", b)
		}
	}
	for _, o := range rights() {
		b := saidOf(o)
		ask(b)
		ask(b[:r.IntN(len(b))])
	}
}

func TestWhatIsParsedIsInMemoryOfItsOwn(t *testing.T) {
	for _, o := range rights() {
		given := append(saidOf(o), "spare room"...)[:len(saidOf(o))]
		kept := bytes.Clone(given)
		first, _ := op.Parse(given)
		second, _ := op.Parse(given)
		spoil(first)
		if !bytes.Equal(given, kept) || !equal(second, o) {
			t.Fatalf("what is parsed shares memory with the bytes, or with another answer: %s", brief(o))
		}
		spoilBytes(given)
		if !equal(second, o) {
			t.Fatalf("what is parsed changes with the bytes: %s", brief(o))
		}
		fill(second)
		if !equal(second, o) {
			t.Fatalf("lists of one answer share memory: %s", brief(o))
		}
	}
}

// each asks all bytes of that length, of those some.
func each(some []byte, long int, ask func(b []byte)) {
	b := make([]byte, long)
	var from func(at int)
	from = func(at int) {
		if at == long {
			ask(b)
			return
		}
		for _, c := range some {
			b[at] = c
			from(at + 1)
		}
	}
	from(0)
}

func TestParseOfAllSmallBytes(t *testing.T) {
	all := make([]byte, 256)
	for i := range all {
		all[i] = byte(i)
	}
	for long := range 3 {
		each(all, long, func(b []byte) { asTheWordsSay(t, b) })
	}
	for long := 3; long < 7; long++ {
		each([]byte{0, 1, 2, 4, 6, 8, 10, 'x', 128}, long, func(b []byte) { asTheWordsSay(t, b) })
	}
}

func TestParseOfDrawnBytes(t *testing.T) {
	r := chance()
	some := []byte{0, 0, 0, 2, 2, 2, 4, 6, 8, 10, 'x', 'x', 97, 128, 255}
	for range 100000 {
		b := make([]byte, r.IntN(20))
		for i := range b {
			b[i] = some[r.IntN(len(some))]
		}
		asTheWordsSay(t, b)
	}
	// Bytes of operations, with one of them another one, out, or in twice.
	for range 50000 {
		b := saidOf(small(r))
		at := r.IntN(len(b))
		switch r.IntN(3) {
		case 0:
			b[at] = byte(r.Uint32())
		case 1:
			b = slices.Delete(b, at, at+1)
		case 2:
			b = slices.Insert(b, at, some[r.IntN(len(some))])
		}
		asTheWordsSay(t, b)
	}
}

// What could not be parsed at one call does not count at the next one.
func TestParseBehindBytesOfNone(t *testing.T) {
	for _, b := range [][]byte{nil, {6, 2, 'x', 2, 4}, {2, 82}, {12}, bytes.Repeat([]byte{4}, 50)} {
		for range 100 {
			wantNone(t, b)
		}
		for _, o := range base() {
			wantParsed(t, saidOf(o), o)
		}
	}
}

// P10.3

func TestWhatIsSaidIsTaken(t *testing.T) {
	for _, o := range rights() {
		b, _ := op.Bytes(o)
		p, e := op.Parse(b)
		if e != api.OK || !op.Same(o, p) || !equal(o, p) {
			t.Errorf("what is said is taken as %s, error %d: %s", brief(p), e, brief(o))
		}
	}
}

// wantSaidJustSo wants that what is parsed of b is said with just these bytes.
func wantSaidJustSo(t *testing.T, b []byte) {
	t.Helper()
	o, e := op.Parse(b)
	if e != api.OK {
		return
	}
	if said, e := op.Bytes(o); e != api.OK || !op.Right(o) || !bytes.Equal(said, b) {
		t.Errorf("what is parsed of % x is said % x, error %d", b, said, e)
	}
}

func TestWhatIsTakenIsSaidJustSo(t *testing.T) {
	for long := range 8 {
		each([]byte{0, 2, 4, 8, 'x'}, long, func(b []byte) { wantSaidJustSo(t, b) })
	}
	r := chance()
	for range 50000 {
		b := saidOf(small(r))
		b[r.IntN(len(b))] = byte(r.Uint32())
		wantSaidJustSo(t, b)
	}
}

func TestUnlikeOperationsHaveUnlikeBytes(t *testing.T) {
	said := map[string]api.Op{}
	ask := func(o api.Op) {
		if !op.Right(o) {
			return
		}
		b, _ := op.Bytes(o)
		if other, ok := said[string(b)]; ok && !equal(other, o) {
			t.Errorf("% x are the bytes of %s and of %s", b, brief(other), brief(o))
		}
		said[string(b)] = o
	}
	for _, o := range rights() {
		ask(o)
	}
	r := chance()
	for range 300 {
		o := small(r)
		ask(o)
		for _, other := range likes(o) {
			ask(other)
		}
	}
}

// The chapter's examples.

func TestExamples(t *testing.T) {
	for _, c := range []struct {
		o    api.Op
		want []byte
	}{
		{api.Op{What: api.OpCancel, ID: "x"}, []byte{10, 2, 120}},
		{api.Op{What: api.OpDispatch, ID: "x"}, []byte{4, 2, 120}},
		{api.Op{What: api.OpFail, ID: "x", Token: 1}, []byte{8, 2, 120, 2}},
		{api.Op{What: api.OpSubmit, Quota: 3}, []byte{2, 0, 6}},
		{api.Op{What: api.OpComplete, ID: "x", Token: 1}, []byte{6, 2, 120, 2, 0, 0, 0}},
	} {
		if b, e := op.Bytes(c.o); e != api.OK || !bytes.Equal(b, c.want) {
			t.Errorf("Bytes: %v, error %d, want %v", b, e, c.want)
		}
		wantParsed(t, c.want, c.o)
	}
	if b, e := op.Bytes(api.Op{What: api.OpCancel, ID: "x", Token: 1}); len(b) != 0 || e != api.ErrArg {
		t.Errorf("Bytes of a Cancel with a token: % x, error %d", b, e)
	}
}
