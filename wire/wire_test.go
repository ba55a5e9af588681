package wire_test

import (
	"bytes"
	"cmp"
	"encoding/binary"
	"math"
	"math/big"
	"math/rand/v2"
	"slices"
	"strings"
	"testing"

	"foreman/api"
	"foreman/wire"
)

// chance is the same in each run.
func chance() *rand.Rand { return rand.New(rand.NewPCG(7, 7)) }

// said is the chapter's words of a number's bytes, in numbers that don't wrap round.
func said(n int64) []byte {
	u := new(big.Int).Mul(big.NewInt(n), big.NewInt(2))
	if n < 0 {
		u.Neg(u)
		u.Sub(u, big.NewInt(1))
	}
	var b []byte
	for {
		var low big.Int
		u.DivMod(u, big.NewInt(128), &low)
		if u.Sign() == 0 {
			return append(b, byte(low.Int64()))
		}
		b = append(b, byte(low.Int64()+128))
	}
}

// saidText is the chapter's words of a text's bytes.
func saidText(s string) []byte { return append(said(int64(len(s))), s...) }

// edges are numbers at which the count of bytes or the sign changes, and those beside them.
func edges() []int64 {
	l := []int64{0, 1, -1, 2, -2, 63, 64, 65, -63, -64, -65, -66, math.MaxInt64, math.MinInt64, math.MaxInt64 - 1, math.MinInt64 + 1, math.MaxInt32, math.MinInt32}
	for bits := range 63 {
		for d := range int64(5) {
			l = append(l, 1<<bits+d-2, -(1<<bits + d - 2))
		}
	}
	return l
}

// numbers are the edges, and drawn ones of all lengths.
func numbers() []int64 {
	r, l := chance(), edges()
	for range 2000 {
		l = append(l, int64(r.Uint64())>>r.IntN(64))
	}
	return l
}

// texts are some of all lengths at which something changes, and with all bytes.
func texts() []string {
	all := make([]byte, 256)
	for i := range all {
		all[i] = byte(i)
	}
	l := []string{"", "a", "ab", "\x00", "\x80\x00", "\xff", "x\x00y", string(all), "\u00e9\u4e16"}
	for _, long := range []int{62, 63, 64, 65, 127, 128, 129, 255, 256, 8191, 8192, 8193, 100000} {
		l = append(l, strings.Repeat("\x81", long), strings.Repeat("z", long))
	}
	return l
}

// fronts are bytes that something is put behind.
func fronts() [][]byte {
	return [][]byte{nil, {}, {7}, {128}, {255, 255}, []byte("of some length, more than a number's bytes")}
}

// spoil writes over all that b reaches, its spare room too.
func spoil(b []byte) {
	b = b[:cap(b)]
	for i := range b {
		b[i] ^= 0xA5
	}
}

func wantNum(t *testing.T, b []byte, want int64, behind []byte) {
	t.Helper()
	n, rest, e := wire.TakeNum(b)
	if n != want || !bytes.Equal(rest, behind) || e != api.OK {
		t.Fatalf("TakeNum(% x): %d, % x, error %d; want %d, % x", b, n, rest, e, want, behind)
	}
}

func wantNoNum(t *testing.T, b []byte) {
	t.Helper()
	n, rest, e := wire.TakeNum(b)
	if n != 0 || len(rest) != 0 || e != api.ErrRecord {
		t.Fatalf("TakeNum(% x): %d, % x, error %d; want error %d", b, n, rest, e, api.ErrRecord)
	}
}

func wantText(t *testing.T, b []byte, most int, want string, behind []byte) {
	t.Helper()
	s, rest, e := wire.TakeText(b, most)
	if s != want || !bytes.Equal(rest, behind) || e != api.OK {
		t.Fatalf("TakeText(% x, %d): %q, % x, error %d; want %q, % x", b, most, s, rest, e, want, behind)
	}
}

func wantNoText(t *testing.T, b []byte, most int) {
	t.Helper()
	s, rest, e := wire.TakeText(b, most)
	if s != "" || len(rest) != 0 || e != api.ErrRecord {
		t.Fatalf("TakeText(% x, %d): %q, % x, error %d; want error %d", b, most, s, rest, e, api.ErrRecord)
	}
}

// P7.1

func TestNumIsTheNumbersBytes(t *testing.T) {
	for _, n := range numbers() {
		want := said(n)
		if lib := binary.AppendVarint(nil, n); !bytes.Equal(want, lib) {
			t.Fatalf("the test's own bytes of %d: % x, the library's % x", n, want, lib)
		}
		if b := wire.Num(nil, n); !bytes.Equal(b, want) {
			t.Fatalf("Num(none, %d): % x, want % x", n, b, want)
		}
		if k := wire.Size(n); k != len(want) {
			t.Fatalf("Size(%d): %d, want %d", n, k, len(want))
		}
	}
}

func TestNumBehind(t *testing.T) {
	for _, front := range fronts() {
		for _, n := range edges() {
			if b, want := wire.Num(front, n), slices.Concat(front, said(n)); !bytes.Equal(b, want) {
				t.Fatalf("Num(% x, %d): % x, want % x", front, n, b, want)
			}
		}
	}
}

func TestTextIsTheTextsBytes(t *testing.T) {
	for _, front := range fronts() {
		for _, s := range texts() {
			if b, want := wire.Text(front, s), slices.Concat(front, saidText(s)); !bytes.Equal(b, want) {
				t.Fatalf("Text(% x, %d bytes): %d bytes, want %d", front, len(s), len(b), len(want))
			}
		}
	}
}

func TestSizeOfEachCountOfBytes(t *testing.T) {
	low, high := int64(-1), int64(0) // the numbers of fewer bytes are from here to there
	for k := 1; k <= 10; k++ {
		least, greatest := int64(math.MinInt64), int64(math.MaxInt64)
		if k < 10 {
			least, greatest = -1<<(7*k-1), 1<<(7*k-1)-1
		}
		for _, n := range []int64{low, high, least, greatest} {
			if got := wire.Size(n); got != k {
				t.Errorf("Size(%d): %d, want %d", n, got, k)
			}
		}
		low, high = least-1, greatest+1
	}
}

// What is put is in memory of its own: neither b, nor its spare room, nor what was put behind the same bytes.
func TestWhatIsPutIsInMemoryOfItsOwn(t *testing.T) {
	for name, put := range map[string]func(b []byte, n int) []byte{
		"Num":           func(b []byte, n int) []byte { return wire.Num(b, int64(n)-500) },
		"Text":          func(b []byte, n int) []byte { return wire.Text(b, strings.Repeat("t", n)) },
		"Num, greatest": func(b []byte, n int) []byte { return wire.Num(b, math.MaxInt64-int64(n)) },
		"Text, of none": func(b []byte, n int) []byte { return wire.Text(b, "") },
	} {
		for _, long := range []int{0, 1, 5, 100} {
			for _, n := range []int{0, 1, 63, 64, 499, 500, 501, 1000} {
				room := bytes.Repeat([]byte("spare room. "), 200)
				kept := bytes.Clone(room)
				first, second := put(room[:long], n), put(room[:long], n)
				want := bytes.Clone(second)
				if !bytes.Equal(room, kept) {
					t.Fatalf("%s changed what was handed in, or its spare room", name)
				}
				spoil(first)
				if !bytes.Equal(room, kept) || !bytes.Equal(second, want) {
					t.Fatalf("%s: what is put shares memory with what was handed in, or with another answer", name)
				}
				spoil(room)
				if !bytes.Equal(second, want) {
					t.Fatalf("%s: what is put changes with what was handed in", name)
				}
			}
		}
	}
}

// P7.2

func TestTakeNumAndWhatIsBehind(t *testing.T) {
	for _, n := range numbers() {
		for _, behind := range [][]byte{nil, {0}, {1}, {128}, {255, 255}, said(n)} {
			wantNum(t, slices.Concat(said(n), behind), n, behind)
		}
	}
}

func TestTakeNumOfNoBytes(t *testing.T) {
	wantNoNum(t, nil)
	wantNoNum(t, []byte{})
	wantNoNum(t, []byte{5, 6}[:0]) // what is in the spare room is not read
}

func TestTakeNumOfBytesThatEndWithin(t *testing.T) {
	for _, n := range numbers() {
		b := said(n)
		for k := range b {
			wantNoNum(t, b[:k])
			wantNoNum(t, b[:k:k])
		}
	}
	for k := range 20 {
		wantNoNum(t, bytes.Repeat([]byte{128}, k))
		wantNoNum(t, bytes.Repeat([]byte{255}, k))
	}
}

func TestTakeNumOfALastGroupThatIsZero(t *testing.T) {
	wantNum(t, []byte{0}, 0, nil)
	wantNum(t, []byte{0, 0}, 0, []byte{0})
	for long := 1; long < 12; long++ {
		for _, group := range []byte{128, 129, 255} {
			b := append(bytes.Repeat([]byte{group}, long), 0)
			wantNoNum(t, b)
			wantNoNum(t, append(b, 1))
		}
	}
	for _, n := range numbers() {
		b := said(n)
		b[len(b)-1] |= 128
		wantNoNum(t, append(b, 0))
		wantNoNum(t, append(b, 128, 0))
	}
}

func TestTakeNumOfTenBytes(t *testing.T) {
	for _, group := range []byte{128, 129, 200, 254, 255} {
		for last := range 256 {
			b := append(bytes.Repeat([]byte{group}, 9), byte(last), 9)
			if last != 1 {
				wantNoNum(t, b)
				continue
			}
			n, _ := binary.Varint(b)
			wantNum(t, b, n, []byte{9})
		}
	}
}

func TestTakeNumOfMoreThanTenBytes(t *testing.T) {
	for long := 10; long < 25; long++ {
		for _, group := range []byte{128, 129, 255} {
			for _, last := range []byte{0, 1, 2, 127} {
				wantNoNum(t, append(bytes.Repeat([]byte{group}, long), last))
			}
		}
	}
}

func TestTakeTextAndWhatIsBehind(t *testing.T) {
	for _, s := range texts() {
		for _, behind := range [][]byte{nil, {0}, {128}, []byte("behind")} {
			b := slices.Concat(saidText(s), behind)
			for _, most := range []int{len(s), len(s) + 1, len(s) + 1000, math.MaxInt32, math.MaxInt} {
				wantText(t, b, most, s, behind)
			}
			for _, most := range []int{len(s) - 1, len(s) / 2, 0, -1, -len(s), math.MinInt32, math.MinInt} {
				if most < len(s) {
					wantNoText(t, b, most)
				}
			}
		}
	}
}

func TestTakeTextOfNoBytes(t *testing.T) {
	for _, most := range []int{math.MinInt, -1, 0, 1, 100, math.MaxInt} {
		wantNoText(t, nil, most)
		wantNoText(t, []byte{}, most)
		if most < 0 {
			wantNoText(t, []byte{0}, most)
			wantNoText(t, []byte{0, 5}, most)
			continue
		}
		wantText(t, []byte{0}, most, "", nil)
		wantText(t, []byte{0, 5}, most, "", []byte{5})
	}
}

func TestTakeTextOfBytesThatEndWithin(t *testing.T) {
	for _, s := range texts() {
		if len(s) > 300 {
			continue
		}
		b := saidText(s)
		for k := range b {
			wantNoText(t, b[:k], math.MaxInt) // the end stands in the spare room
			wantNoText(t, b[:k:k], len(s))
		}
	}
}

func TestTakeTextOfLengthsThatMayNotBe(t *testing.T) {
	for _, long := range edges() {
		if long >= 0 && long < 4 {
			continue
		}
		b := append(said(long), "abc"...)
		for _, most := range []int{math.MinInt, -65, -64, -1, 0, 1, 3, 4, 100, math.MaxInt32, math.MaxInt} {
			wantNoText(t, b, most)
		}
	}
}

func TestTakeTextOfALengthThatIsNoNumber(t *testing.T) {
	for _, b := range [][]byte{{128, 0}, {130, 0, 'a'}, {132, 128, 0, 'a', 'b'}, {128}, append(bytes.Repeat([]byte{255}, 9), 2, 'a'), append(bytes.Repeat([]byte{128}, 10), 1)} {
		for _, most := range []int{-1, 0, 1, 2, math.MaxInt} {
			wantNoText(t, b, most)
		}
	}
}

// sharesOnly wants rest to be the bytes of room from the place at on, up to end, and to reach no further.
func sharesOnly(t *testing.T, room, rest []byte, at, end int) {
	t.Helper()
	kept := bytes.Clone(room)
	rest[0] ^= 1
	if room[at] != kept[at]^1 {
		t.Fatal("what is behind does not share memory with what was handed in")
	}
	rest[0] ^= 1
	spoil(append(rest, 1, 2, 3))
	if !bytes.Equal(room[:at], kept[:at]) || !bytes.Equal(room[end:], kept[end:]) {
		t.Fatal("what is put behind what is behind changes the spare room")
	}
	copy(room, kept)
}

func TestWhatIsBehindSharesMemory(t *testing.T) {
	room := []byte{129, 1, 4, 'a', 'b', 9, 8, 7, 50, 51, 52, 53, 54, 55}
	_, rest, _ := wire.TakeNum(room[:8])
	sharesOnly(t, room, rest, 2, 8)
	_, rest, _ = wire.TakeText(room[2:8], 2)
	sharesOnly(t, room, rest, 5, 8)
}

func TestATextTakenStays(t *testing.T) {
	b := append(saidText("a text"), 1, 2)
	s, _, _ := wire.TakeText(b, 99)
	spoil(b)
	if s != "a text" {
		t.Fatalf("a text that was taken changes with the bytes: %q", s)
	}
}

func TestBytesHandedInStay(t *testing.T) {
	room := slices.Concat(said(-65), saidText("ab"), []byte{128, 0}, bytes.Repeat([]byte{255}, 12), []byte{1, 2, 3})
	kept := bytes.Clone(room)
	for at := range room {
		for end := at; end <= len(room); end++ {
			n, rest, e := wire.TakeNum(room[at:end])
			n2, rest2, e2 := wire.TakeNum(bytes.Clone(room[at:end]))
			if n != n2 || !bytes.Equal(rest, rest2) || e != e2 {
				t.Fatalf("TakeNum of % x hangs on what is in the spare room", room[at:end])
			}
			s, rest, e := wire.TakeText(room[at:end], 5)
			s2, rest2, e2 := wire.TakeText(bytes.Clone(room[at:end]), 5)
			if s != s2 || !bytes.Equal(rest, rest2) || e != e2 {
				t.Fatalf("TakeText of % x hangs on what is in the spare room", room[at:end])
			}
			if !bytes.Equal(room, kept) {
				t.Fatalf("TakeNum or TakeText of % x changed the bytes", kept[at:end])
			}
		}
	}
}

// P7.3

func TestWhatIsSaidIsTaken(t *testing.T) {
	var b []byte
	for _, n := range numbers() {
		b = wire.Num(b, n)
	}
	for _, s := range texts() {
		b = wire.Text(b, s)
	}
	for _, n := range numbers() {
		got, rest, e := wire.TakeNum(b)
		if got != n || e != api.OK {
			t.Fatalf("%d was said, %d was taken, error %d", n, got, e)
		}
		b = rest
	}
	for _, s := range texts() {
		got, rest, e := wire.TakeText(b, len(s))
		if got != s || e != api.OK {
			t.Fatalf("a text of %d bytes was said, one of %d was taken, error %d", len(s), len(got), e)
		}
		b = rest
	}
	if len(b) != 0 {
		t.Fatalf("%d bytes are behind all that was said", len(b))
	}
}

// saidJustSo wants what is taken of b, if something is, to be said just so.
func saidJustSo(t *testing.T, b []byte) {
	t.Helper()
	if n, rest, e := wire.TakeNum(b); e == api.OK {
		if again := wire.Num(nil, n); !bytes.Equal(append(again, rest...), b) {
			t.Fatalf("%d is taken of % x, but is said % x", n, b, again)
		}
	} else {
		wantNoNum(t, b)
	}
	if s, rest, e := wire.TakeText(b, 3); e == api.OK {
		if again := wire.Text(nil, s); len(s) > 3 || !bytes.Equal(append(again, rest...), b) {
			t.Fatalf("%q is taken of % x, but is said % x", s, b, again)
		}
	} else {
		wantNoText(t, b, 3)
	}
}

func TestWhatIsTakenIsSaidJustSo(t *testing.T) {
	saidJustSo(t, nil)
	for i := range 1 << 8 {
		saidJustSo(t, []byte{byte(i)})
	}
	for i := range 1 << 16 {
		saidJustSo(t, []byte{byte(i), byte(i >> 8)})
		saidJustSo(t, []byte{byte(i) | 128, byte(i >> 8), 0})
		saidJustSo(t, []byte{byte(i) | 128, byte(i>>8) | 128, 1})
	}
	r := chance()
	some := []byte{0, 1, 2, 3, 4, 127, 128, 128, 129, 130, 200, 254, 255, 255}
	for range 100000 {
		b := make([]byte, r.IntN(13))
		for i := range b {
			b[i] = some[r.IntN(len(some))]
			if r.IntN(3) > 0 { // mostly so that numbers get long
				b[i] |= 128
			}
		}
		saidJustSo(t, b)
	}
}

// Each begin of bytes is some number's, or none's: of the small ones all are told by a table of what the small numbers say.
func TestNumbersOfTwoBytesAreJustThoseThatAreSaid(t *testing.T) {
	says := map[string]int64{}
	for n := int64(-8192); n < 8192; n++ {
		says[string(said(n))] = n
	}
	for i := range 1 << 16 {
		b := []byte{byte(i), byte(i >> 8)}
		one, isOne := says[string(b[:1])]
		two, isTwo := says[string(b)]
		switch {
		case isOne:
			wantNum(t, b, one, b[1:])
		case isTwo:
			wantNum(t, b, two, nil)
		default:
			wantNoNum(t, b)
		}
	}
}

// away is how far a number is from 0.
func away(n int64) uint64 {
	if n < 0 {
		return -uint64(n)
	}
	return uint64(n)
}

func TestSizes(t *testing.T) {
	l := numbers()
	slices.SortFunc(l, func(a, b int64) int { return cmp.Compare(away(a), away(b)) })
	longest, ahead := 0, 0 // of those that are less far from 0; of those just as far
	for i, n := range l {
		if i > 0 && away(n) > away(l[i-1]) {
			longest = max(longest, ahead)
			ahead = 0
		}
		k := len(wire.Num(nil, n))
		if k != wire.Size(n) || k < 1 || k > 10 {
			t.Fatalf("%d has %d bytes, its Size is %d", n, k, wire.Size(n))
		}
		if k < longest {
			t.Fatalf("%d has %d bytes, one less far from 0 has %d", n, k, longest)
		}
		ahead = max(ahead, k)
	}
}

// The chapter's examples.

func TestExamples(t *testing.T) {
	least := append(bytes.Repeat([]byte{255}, 9), 1)
	for _, c := range []struct {
		n    int64
		want []byte
	}{{0, []byte{0}}, {-1, []byte{1}}, {1, []byte{2}}, {63, []byte{126}}, {64, []byte{128, 1}}, {-65, []byte{129, 1}}, {math.MinInt64, least}} {
		if b := wire.Num(nil, c.n); !bytes.Equal(b, c.want) || wire.Size(c.n) != len(c.want) {
			t.Errorf("Num(none, %d): %v, Size %d; want %v", c.n, b, wire.Size(c.n), c.want)
		}
		wantNum(t, c.want, c.n, nil)
	}
	wantNoNum(t, []byte{128, 0})
	if b := wire.Text(nil, "ab"); !bytes.Equal(b, []byte{4, 97, 98}) {
		t.Errorf("Text(none, ab): %v", b)
	}
	wantText(t, []byte{4, 97, 98}, 2, "ab", nil)
	wantNoText(t, []byte{6, 97, 98}, 100)
	wantNoText(t, []byte{4, 97, 98}, 1)
}
