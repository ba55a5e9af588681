package crc_test

import (
	"bytes"
	"hash/crc32"
	"math"
	"math/rand/v2"
	"testing"

	"foreman/crc"
)

// chance is the same in each run.
func chance() *rand.Rand { return rand.New(rand.NewPCG(2, 2)) }

func row(r *rand.Rand, long int) []byte {
	b := make([]byte, long)
	for i := range b {
		b[i] = byte(r.Uint32())
	}
	return b
}

// edges are sums with few bits, many bits, and others.
func edges(r *rand.Rand) []uint32 {
	sums := []uint32{0, 1, 2, 5, 0x80, 0xFF, 0x100, 0xEDB88320, 1 << 31, math.MaxUint32, math.MaxUint32 - 1, math.MaxInt32}
	for range 30 {
		sums = append(sums, r.Uint32())
	}
	return sums
}

// halve and pass are the chapter's words, said bit by bit.
func halve(n uint32) uint32 {
	if n%2 == 1 {
		return n/2 ^ 0xEDB88320
	}
	return n / 2
}

func pass(register uint32, b byte) uint32 {
	place := register&0xFF ^ uint32(b)
	for range 8 {
		place = halve(place)
	}
	return place ^ register/256
}

func passNoughts(register uint32, long int) uint32 {
	for range long {
		register = crc32.IEEETable[byte(register)] ^ register>>8
	}
	return register
}

// P2.1

func TestTableOfAllPlaces(t *testing.T) {
	for i := range 256 {
		if got, want := crc.Table(uint8(i)), crc32.IEEETable[i]; got != want {
			t.Errorf("Table(%d): %#x, want %#x", i, got, want)
		}
		if got, want := crc.Table(uint8(i)), pass(0, byte(i)); got != want {
			t.Errorf("Table(%d): %#x, by halving %#x", i, got, want)
		}
	}
}

func TestTableExamples(t *testing.T) {
	if got := crc.Table(1); got != 0x77073096 {
		t.Errorf("Table(1): %#x", got)
	}
	if got := crc.Table(128); got != 0xEDB88320 {
		t.Errorf("Table(128): %#x", got)
	}
	if got := crc.Table(0); got != 0 {
		t.Errorf("Table(0): %#x", got)
	}
}

func TestSumExamples(t *testing.T) {
	for _, c := range []struct {
		b    []byte
		want uint32
	}{
		{nil, 0},
		{[]byte{}, 0},
		{[]byte("123456789"), 0xCBF43926},
		{[]byte{0}, 0xD202EF8D},
		{[]byte{0xFF}, 0xFF000000},
		{[]byte{0xFF, 0xFF, 0xFF, 0xFF}, 0xFFFFFFFF},
		{[]byte{0x9D, 0x0A, 0xD9, 0x6D}, 0},
		{bytes.Repeat([]byte{0xFF}, 32), 0xFF6CAB0B},
	} {
		if got := crc.Sum(c.b); got != c.want {
			t.Errorf("Sum(%v): %#x, want %#x", c.b, got, c.want)
		}
	}
}

func TestSumOfRows(t *testing.T) {
	r := chance()
	for long := range 700 {
		for _, b := range [][]byte{row(r, long), make([]byte, long)} {
			if got, want := crc.Sum(b), crc32.ChecksumIEEE(b); got != want {
				t.Fatalf("Sum of %d bytes: %#x, want %#x", long, got, want)
			}
		}
	}
	for _, b := range [][]byte{row(r, 1<<20), make([]byte, 1<<20)} {
		if got, want := crc.Sum(b), crc32.ChecksumIEEE(b); got != want {
			t.Fatalf("Sum of a long row: %#x, want %#x", got, want)
		}
	}
}

func TestSumLeavesWhatItIsGiven(t *testing.T) {
	all := []byte("123456789 and its spare room")
	kept := bytes.Clone(all)
	first := crc.Sum(all[:9])
	if !bytes.Equal(all, kept) {
		t.Fatal("Sum changed its bytes, or those behind them")
	}
	if again := crc.Sum(all[:9:9]); first != 0xCBF43926 || again != first {
		t.Fatalf("Sum: %#x, and %#x without spare room", first, again)
	}
}

func TestNextIsOneByteMore(t *testing.T) {
	r := chance()
	b := row(r, 600)
	sum := crc.Sum(nil)
	for i, x := range b {
		sum = crc.Next(sum, x)
		if want := crc.Sum(b[:i+1]); sum != want {
			t.Fatalf("Next behind %d bytes: %#x, want %#x", i, sum, want)
		}
	}
}

func TestNextOfAnySum(t *testing.T) {
	for _, sum := range edges(chance()) {
		for i := range 256 {
			x := byte(i)
			got := crc.Next(sum, x)
			if want := ^pass(^sum, x); got != want {
				t.Fatalf("Next(%#x, %d): %#x, bit by bit %#x", sum, x, got, want)
			}
			if want := crc32.Update(sum, crc32.IEEETable, []byte{x}); got != want {
				t.Fatalf("Next(%#x, %d): %#x, want %#x", sum, x, got, want)
			}
		}
	}
}

// P2.2

func TestJoinExample(t *testing.T) {
	if got := crc.Join(crc.Sum([]byte("12345")), crc.Sum([]byte("6789")), 4); got != 0xCBF43926 {
		t.Fatalf("Join: %#x", got)
	}
}

func TestJoinAtEachCut(t *testing.T) {
	r := chance()
	for _, long := range []int{0, 1, 2, 3, 4, 5, 31, 32, 33, 255, 256, 257, 500} {
		for _, b := range [][]byte{row(r, long), make([]byte, long)} {
			want := crc.Sum(b)
			for k := range long + 1 {
				if got := crc.Join(crc.Sum(b[:k]), crc.Sum(b[k:]), long-k); got != want {
					t.Fatalf("Join of %d bytes cut at %d: %#x, want %#x", long, k, got, want)
				}
			}
		}
	}
}

func TestJoinOfLongRows(t *testing.T) {
	b := row(chance(), 1<<20+7)
	want := crc.Sum(b)
	for _, k := range []int{0, 1, 1 << 10, 1<<19 - 1, 1 << 19, 1 << 20, 1<<20 + 6, 1<<20 + 7} {
		if got := crc.Join(crc.Sum(b[:k]), crc.Sum(b[k:]), len(b)-k); got != want {
			t.Errorf("Join at %d: %#x, want %#x", k, got, want)
		}
	}
}

func TestJoinOfAnySums(t *testing.T) {
	r := chance()
	for _, long := range []int{0, 1, 2, 3, 4, 5, 7, 8, 15, 16, 100, 255, 256, 257, 1000, 1 << 14, 1<<17 + 3} {
		for _, a := range edges(r) {
			b := r.Uint32()
			if got, want := crc.Join(a, b, long), passNoughts(a, long)^b; got != want {
				t.Fatalf("Join(%#x, %#x, %d): %#x, want %#x", a, b, long, got, want)
			}
		}
	}
}

func TestJoinOfNoBytesPutsInB(t *testing.T) {
	for _, c := range [][3]uint32{{5, 0, 5}, {5, 6, 3}, {0, 7, 7}, {0, 0, 0}, {math.MaxUint32, 1, math.MaxUint32 - 1}} {
		if got := crc.Join(c[0], c[1], 0); got != c[2] {
			t.Errorf("Join(%#x, %#x, 0): %#x, want %#x", c[0], c[1], got, c[2])
		}
	}
}

func TestJoinOfLongThatMayNotBe(t *testing.T) {
	for _, long := range []int{math.MinInt, math.MinInt32, -256, -2, -1, 1 << 31, 1<<31 + 1, 1 << 32, 1<<32 + 1, 1 << 62, math.MaxInt} {
		for _, a := range edges(chance()) {
			if got := crc.Join(a, 6, long); got != a {
				t.Fatalf("Join(%#x, 6, %d): %#x, want a", a, long, got)
			}
		}
	}
}

// Behind 2^32 - 1 halvings a register is what it was: so 2^29 bytes of 0 are one halving, and 2^31 - 1 bytes are four halvings less than none.
func TestJoinOfTheLongestRows(t *testing.T) {
	r := chance()
	for _, a := range edges(r) {
		b := r.Uint32()
		if got, want := crc.Join(a, b, 1<<29), halve(a)^b; got != want {
			t.Fatalf("Join(%#x, %#x, 2^29): %#x, want %#x", a, b, got, want)
		}
		if got, want := crc.Join(a, b, 1<<30), halve(halve(a))^b; got != want {
			t.Fatalf("Join(%#x, %#x, 2^30): %#x, want %#x", a, b, got, want)
		}
		back := crc.Join(a, b, 1<<31-1) ^ b
		if got := halve(halve(halve(halve(back)))); got != a {
			t.Fatalf("Join(%#x, %#x, 2^31 - 1): four halvings on %#x, want a", a, b, got)
		}
		last := crc.Join(a, b, 1<<31-2) ^ b
		if got := pass(last, 0); got != back {
			t.Fatalf("Join(%#x, %#x, 2^31 - 2): a byte on %#x, want %#x", a, b, got, back)
		}
	}
}

func TestJoinOfThree(t *testing.T) {
	r := chance()
	for range 300 {
		a, b, c := r.Uint32(), r.Uint32(), r.Uint32()
		m, n := r.IntN(1<<30), r.IntN(1<<30)
		left := crc.Join(crc.Join(a, b, m), c, n)
		right := crc.Join(a, crc.Join(b, c, n), m+n)
		if left != right {
			t.Fatalf("Join of %#x, %#x (%d), %#x (%d): %#x from the left, %#x from the right", a, b, m, c, n, left, right)
		}
	}
}

// P2.3

func TestOneBitIsTold(t *testing.T) {
	r := chance()
	for _, long := range []int{1, 2, 9, 64, 300} {
		for _, b := range [][]byte{row(r, long), make([]byte, long)} {
			told := map[uint32]int{crc.Sum(b): -1}
			for bit := range long * 8 {
				b[bit/8] ^= 1 << (bit % 8)
				sum := crc.Sum(b)
				if other, ok := told[sum]; ok {
					t.Fatalf("of %d bytes, bit %d turned about, and bit %d (-1: none): both %#x", long, bit, other, sum)
				}
				told[sum] = bit
				b[bit/8] ^= 1 << (bit % 8)
			}
		}
	}
}

func TestFourBytesAreTold(t *testing.T) {
	r := chance()
	for long := 1; long < 60; long++ {
		b := row(r, long)
		sum := crc.Sum(b)
		for at := range long {
			for wide := 1; wide <= min(4, long-at); wide++ {
				for range 8 {
					other := bytes.Clone(b)
					copy(other[at:at+wide], row(r, wide))
					if same := bytes.Equal(b, other); same != (crc.Sum(other) == sum) {
						t.Fatalf("of %d bytes, %d at %d: same %v, sums %#x, %#x", long, wide, at, same, sum, crc.Sum(other))
					}
				}
			}
		}
	}
}

func TestTwoBytesAreToldAll(t *testing.T) {
	b := []byte("some bytes, of which two are others")
	told := map[uint32]bool{}
	for i := range 1 << 16 {
		b[7], b[8] = byte(i), byte(i>>8)
		told[crc.Sum(b)] = true
	}
	if len(told) != 1<<16 {
		t.Fatalf("%d sums of %d rows", len(told), 1<<16)
	}
}

func TestSumsOfThreeRows(t *testing.T) {
	r := chance()
	for long := range 300 {
		a, b, c := row(r, long), row(r, long), row(r, long)
		all := make([]byte, long)
		for i := range all {
			all[i] = a[i] ^ b[i] ^ c[i]
		}
		if got, want := crc.Sum(a)^crc.Sum(b)^crc.Sum(c), crc.Sum(all); got != want {
			t.Fatalf("three rows of %d bytes: %#x, want %#x", long, got, want)
		}
	}
}
