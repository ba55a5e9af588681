package value_test

import (
	"bytes"
	"math"
	"slices"
	"strings"
	"testing"

	"foreman/api"
	"foreman/value"
)

// fronts are bytes that something is put behind.
func fronts() [][]byte {
	return [][]byte{nil, {}, {7}, {128}, {4, 2}, []byte("of some length, more than a value's bytes often have")}
}

// spoilBytes writes over all that b reaches, its spare room too.
func spoilBytes(b []byte) {
	b = b[:cap(b)]
	for i := range b {
		b[i] ^= 0xA5
	}
}

// P8.2

func TestBytesOfRightValues(t *testing.T) {
	for _, v := range rights() {
		b, e := value.Bytes(v)
		if e != api.OK || !bytes.Equal(b, saidOf(v)) {
			t.Errorf("Bytes: % x, error %d, want % x: %s", b, e, saidOf(v), brief(v))
		}
	}
}

func TestBytesOfOthers(t *testing.T) {
	for _, v := range wrongs() {
		b, e := value.Bytes(v)
		if len(b) != 0 || e != api.ErrArg {
			t.Errorf("Bytes of a value that is not right: % x, error %d: %s", b, e, brief(v))
		}
	}
}

func TestPut(t *testing.T) {
	for _, front := range fronts() {
		for _, v := range rights() {
			if b, want := value.Put(front, v), slices.Concat(front, saidOf(v)); !bytes.Equal(b, want) {
				t.Errorf("Put behind % x: % x, want % x: %s", front, b, want, brief(v))
			}
		}
	}
}

func TestPutOfOthersHasTheBytesAhead(t *testing.T) {
	for _, front := range fronts() {
		for _, v := range wrongs() {
			if b := value.Put(front, v); !bytes.HasPrefix(b, front) {
				t.Errorf("Put behind % x: % x: %s", front, b, brief(v))
			}
		}
	}
}

// What is put is in memory of its own: neither b, nor its spare room, nor what was put behind the same bytes.
func TestWhatIsPutIsInMemoryOfItsOwn(t *testing.T) {
	some := append(rights()[:200], wrongs()[:200]...)
	for _, long := range []int{0, 1, 5, 100} {
		for _, v := range some {
			room := bytes.Repeat([]byte("spare room. "), 100)
			kept := bytes.Clone(room)
			first, second := value.Put(room[:long], v), value.Put(room[:long], v)
			want := bytes.Clone(second)
			if !bytes.Equal(room, kept) {
				t.Fatalf("Put changed what was handed in, or its spare room: %s", brief(v))
			}
			spoilBytes(first)
			if !bytes.Equal(room, kept) || !bytes.Equal(second, want) {
				t.Fatalf("what is put shares memory with what was handed in, or with another answer: %s", brief(v))
			}
			spoilBytes(room)
			if !bytes.Equal(second, want) {
				t.Fatalf("what is put changes with what was handed in: %s", brief(v))
			}
		}
	}
}

func TestBytesAreInMemoryOfTheirOwn(t *testing.T) {
	for _, v := range rights() {
		first, _ := value.Bytes(v)
		second, _ := value.Bytes(v)
		spoilBytes(first)
		if third, _ := value.Bytes(v); !bytes.Equal(second, saidOf(v)) || !bytes.Equal(third, saidOf(v)) {
			t.Fatalf("the bytes of two answers share memory: %s", brief(v))
		}
	}
}

// P8.3

func wantTaken(t *testing.T, b []byte, want api.Value, behind []byte) {
	t.Helper()
	v, rest, e := value.Take(b)
	if e != api.OK || !equal(v, want) || !bytes.Equal(rest, behind) {
		t.Errorf("Take(% x): %s, % x, error %d; want %s, % x", b, brief(v), rest, e, brief(want), behind)
	}
	v, e = value.Parse(b)
	if len(behind) == 0 && (e != api.OK || !equal(v, want)) {
		t.Errorf("Parse(% x): %s, error %d; want %s", b, brief(v), e, brief(want))
	}
	if len(behind) > 0 {
		wantNotParsed(t, b)
	}
}

func wantNotParsed(t *testing.T, b []byte) {
	t.Helper()
	if v, e := value.Parse(b); e != api.ErrRecord || !equal(v, api.Value{}) {
		t.Errorf("Parse(% x): %s, error %d; want error %d", b, brief(v), e, api.ErrRecord)
	}
}

func wantNone(t *testing.T, b []byte) {
	t.Helper()
	if v, rest, e := value.Take(b); e != api.ErrRecord || !equal(v, api.Value{}) || len(rest) != 0 {
		t.Errorf("Take(% x): %s, % x, error %d; want error %d", b, brief(v), rest, e, api.ErrRecord)
	}
	wantNotParsed(t, b)
}

func TestTakeAndWhatIsBehind(t *testing.T) {
	for _, v := range rights() {
		for _, behind := range [][]byte{nil, {0}, {0, 0}, {1}, {128}, {255, 255}, saidOf(v)} {
			wantTaken(t, slices.Concat(saidOf(v), behind), v, behind)
		}
	}
}

func TestTakeOfBytesThatEndWithin(t *testing.T) {
	wantNone(t, nil)
	wantNone(t, []byte{})
	for _, v := range rights()[:300] {
		b := saidOf(v)
		for k := range b {
			wantNone(t, b[:k]) // the end stands in the spare room
			wantNone(t, b[:k:k])
		}
	}
}

// Bytes of values that are not right for a reason which bytes can say.
func TestTakeOfValuesThatAreNotRight(t *testing.T) {
	for lists := range 60 {
		for _, v := range []api.Value{number(1), text("a"), list()} {
			v := nested(v, lists)
			wantTakenIf(t, lists < 6, v)
			wantTakenIf(t, lists < 5, list(number(1), v, list()))
		}
	}
	for parts := 1; parts <= 400; parts++ {
		wantTakenIf(t, parts <= 200, ofParts(parts))
		wantTakenIf(t, parts <= 197, nested(ofParts(parts), 3))
		wantTakenIf(t, parts <= 198, list(number(1), ofParts(parts)))
	}
	for n := range 150 {
		wantTakenIf(t, n <= 100, text(strings.Repeat("\xff", n)))
		wantTakenIf(t, n <= 100, list(text(strings.Repeat("a", n)), number(1)))
		wantTakenIf(t, n <= 40, listOf(n, number(1)))
		wantTakenIf(t, n <= 40, list(number(1), listOf(n, list())))
	}
}

// wantTakenIf wants that a value's bytes are taken, if it is right, and that they are not, if it isn't.
func wantTakenIf(t *testing.T, right bool, v api.Value) {
	t.Helper()
	if right {
		wantTaken(t, saidOf(v), v, nil)
		wantTaken(t, append(saidOf(v), 0), v, []byte{0})
	} else {
		wantNone(t, saidOf(v))
		wantNone(t, append(saidOf(v), 0))
	}
}

// behindAll are bytes that something may be taken of, whatever is ahead of them.
var behindAll = bytes.Repeat([]byte{0}, 300)

func TestTakeOfKindsThatAreNone(t *testing.T) {
	for _, kind := range []int64{-1, -2, -3, 3, 4, 63, 64, 127, 128, 254, 255, 256, 257, 258, 512, 1 << 16, 1 << 32, 1<<32 + 1, 1<<32 + 2, math.MaxInt64, math.MinInt64, math.MinInt64 + 1, math.MinInt64 + 2} {
		b := append(num(kind), behindAll...)
		wantNone(t, b)
		wantNone(t, num(kind))
		wantNone(t, append([]byte{4, 2}, b...))
		wantNone(t, append([]byte{4, 4, 0, 0}, b...))
	}
}

func TestTakeOfLengthsThatMayNotBe(t *testing.T) {
	for _, long := range []int64{-1, -2, -40, -100, -128, -256, 101, 102, 127, 128, 255, 256, 257, 296, 1 << 16, 1 << 31, 1 << 32, 1<<32 + 1, 1<<40 + 2, math.MaxInt64, math.MaxInt64 - 1, math.MinInt64, math.MinInt64 + 1} {
		for _, kind := range []byte{2, 4} {
			b := slices.Concat([]byte{kind}, num(long), behindAll)
			wantNone(t, b)
			wantNone(t, b[:1+len(num(long))])
			wantNone(t, append([]byte{4, 2}, b...))
		}
	}
	for _, long := range []int64{41, 42, 100} { // of a text these may be
		wantNone(t, slices.Concat([]byte{4}, num(long), behindAll))
		wantNone(t, slices.Concat([]byte{4, 2, 4}, num(long), behindAll))
		wantTaken(t, slices.Concat([]byte{2}, num(long), behindAll), text(string(behindAll[:long])), behindAll[long:])
	}
}

func TestTakeOfNumbersThatAreSaidOtherwise(t *testing.T) {
	for _, b := range [][]byte{
		{128, 0, 0}, {0, 128, 0}, {0, 130, 128, 0}, {130, 0, 2, 97}, {2, 130, 0, 97}, {2, 128, 0}, {132, 0, 0}, {4, 128, 0}, {4, 130, 0, 0, 0}, {4, 2, 128, 0, 0},
		append(append([]byte{0}, bytes.Repeat([]byte{255}, 9)...), 2), append(append([]byte{0}, bytes.Repeat([]byte{128}, 10)...), 1), append(bytes.Repeat([]byte{128}, 9), 2, 0),
	} {
		wantNone(t, b)
		wantNone(t, append(b, behindAll...))
	}
}

// A great many lists in lists are left as soon as they are too deep, or too many.
func TestTakeOfGreatBytes(t *testing.T) {
	for _, one := range [][]byte{{4, 2}, {4, 4}, {4, 80}, {4, 80, 0, 0}, {4, 4, 4, 0}} {
		b := bytes.Repeat(one, 1<<20)
		wantNotParsed(t, b)
		if v, rest, e := value.Take(b); e != api.ErrRecord || !equal(v, api.Value{}) || len(rest) != 0 {
			t.Errorf("Take of % x, and so on: %s, error %d", one, brief(v), e)
		}
	}
	b := bytes.Repeat([]byte{0, 2}, 1<<20)
	if v, rest, e := value.Take(b); e != api.OK || !equal(v, number(1)) || len(rest) != len(b)-2 {
		t.Errorf("Take of a number, and many bytes: %s, %d bytes behind, error %d", brief(v), len(rest), e)
	}
}

func TestWhatIsBehindSharesMemory(t *testing.T) {
	for _, v := range rights() {
		said := saidOf(v)
		room := slices.Concat(said, []byte{1, 2, 3, 51, 52, 53})
		kept := bytes.Clone(room)
		end := len(said) + 3
		_, rest, _ := value.Take(room[:end])
		rest[0] ^= 1
		if room[len(said)] != kept[len(said)]^1 {
			t.Fatalf("what is behind does not share memory with what was handed in: %s", brief(v))
		}
		spoilBytes(append(rest, 4, 5, 6))
		if !bytes.Equal(room[:len(said)], kept[:len(said)]) || !bytes.Equal(room[end:], kept[end:]) {
			t.Fatalf("what is put behind what is behind changes the spare room: %s", brief(v))
		}
	}
}

func TestAValueTakenIsInMemoryOfItsOwn(t *testing.T) {
	for _, v := range rights() {
		b := append(saidOf(v), 1, 2)
		kept := bytes.Clone(b)
		first, _, _ := value.Take(b)
		second, _, _ := value.Take(b)
		third, _ := value.Parse(b[:len(b)-2])
		spoil(first)
		if !bytes.Equal(b, kept) || !equal(second, v) || !equal(third, v) {
			t.Fatalf("a value that was taken shares memory with the bytes, or with another one: %s", brief(v))
		}
		spoilBytes(b)
		if !equal(second, v) || !equal(third, v) {
			t.Fatalf("a value that was taken changes with the bytes: %s", brief(v))
		}
		wantListsApart(t, second)
		wantListsApart(t, third)
	}
}

func TestBytesHandedInStay(t *testing.T) {
	room := slices.Concat(saidOf(list(number(-65), text("ab"), list(list()))), []byte{128, 0, 4, 4, 2, 2, 2, 97}, bytes.Repeat([]byte{255}, 12), []byte{4, 6, 0, 0, 6})
	kept := bytes.Clone(room)
	for at := range room {
		for end := at; end <= len(room); end++ {
			v, rest, e := value.Take(room[at:end])
			v2, rest2, e2 := value.Take(bytes.Clone(room[at:end]))
			if !equal(v, v2) || !bytes.Equal(rest, rest2) || e != e2 {
				t.Fatalf("Take of % x hangs on what is in the spare room", room[at:end])
			}
			v, e = value.Parse(room[at:end])
			v2, e2 = value.Parse(bytes.Clone(room[at:end]))
			if !equal(v, v2) || e != e2 {
				t.Fatalf("Parse of % x hangs on what is in the spare room", room[at:end])
			}
			if !bytes.Equal(room, kept) {
				t.Fatalf("Take or Parse of % x changed the bytes", kept[at:end])
			}
		}
	}
}

// asTheWordsSay wants that just so much is taken of b as the chapter's words say.
func asTheWordsSay(t *testing.T, b []byte) {
	t.Helper()
	if v, k := takenOf(b); k > 0 {
		wantTaken(t, b, v, b[k:])
	} else {
		wantNone(t, b)
	}
}

func TestTakeOfAllSmallBytes(t *testing.T) {
	asTheWordsSay(t, nil)
	for i := range 1 << 8 {
		asTheWordsSay(t, []byte{byte(i)})
	}
	for i := range 1 << 16 {
		asTheWordsSay(t, []byte{byte(i), byte(i >> 8)})
	}
	some := []byte{0, 1, 2, 3, 4, 5, 6, 8, 80, 82, 126, 127, 128, 129, 130, 132, 255}
	for i := range len(some) * len(some) * len(some) * len(some) {
		b := make([]byte, 4)
		for k, left := 0, i; k < 4; k++ {
			b[k] = some[left%len(some)]
			left /= len(some)
		}
		asTheWordsSay(t, b)
		asTheWordsSay(t, b[:3])
	}
}

func TestTakeOfDrawnBytes(t *testing.T) {
	r := chance()
	some := []byte{0, 0, 0, 2, 2, 4, 4, 4, 4, 6, 1, 3, 128, 255, 97}
	for range 100000 {
		b := make([]byte, r.IntN(30))
		for i := range b {
			b[i] = some[r.IntN(len(some))]
		}
		asTheWordsSay(t, b)
	}
	// Bytes of values, with one of them another one, out, or in twice.
	l := rights()
	for range 50000 {
		b := saidOf(l[r.IntN(len(l))])
		at := r.IntN(len(b))
		switch r.IntN(3) {
		case 0:
			b[at] = byte(r.Uint32())
		case 1:
			b = slices.Delete(b, at, at+1)
		case 2:
			b = slices.Insert(b, at, some[r.IntN(len(some))])
		}
		asTheWordsSay(t, b)
	}
}

// What was left at one call does not count at the next one.
func TestTakeBehindALeft(t *testing.T) {
	for _, left := range [][]byte{nil, {6}, {4, 80, 4}, bytes.Repeat([]byte{4, 2}, 20)} {
		for range 300 {
			wantNone(t, left)
		}
		wantTaken(t, saidOf(ofParts(200)), ofParts(200), nil)
		wantTaken(t, saidOf(nested(number(1), 5)), nested(number(1), 5), nil)
	}
}
