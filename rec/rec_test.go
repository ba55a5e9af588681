package rec_test

import (
	"bytes"
	"encoding/binary"
	"hash/crc32"
	"math"
	"math/rand/v2"
	"testing"

	"foreman/api"
	"foreman/rec"
)

// chance is the same in each run.
func chance() *rand.Rand { return rand.New(rand.NewPCG(3, 3)) }

func row(r *rand.Rand, long int) []byte {
	b := make([]byte, long)
	for i := range b {
		b[i] = byte(r.Uint32())
	}
	return b
}

func data(b ...byte) api.Rec   { return api.Rec{Kind: api.RecData, Data: b} }
func commit(b ...byte) api.Rec { return api.Rec{Kind: api.RecCommit, Data: b} }

// sealed is bytes under their right check sum, whatever they say, with the library's means.
func sealed(b []byte) []byte {
	return append(binary.LittleEndian.AppendUint32(nil, crc32.ChecksumIEEE(b)), b...)
}

// written is the chapter's words of a record's bytes, of any kind, with any length told.
func written(kind uint8, told uint32, b []byte) []byte {
	return sealed(append(binary.LittleEndian.AppendUint32([]byte{kind}, told), b...))
}

func put(t *testing.T, r api.Rec) []byte {
	t.Helper()
	b, e := rec.Put(r)
	if e != api.OK {
		t.Fatalf("Put of kind %d, %d bytes: error %d", r.Kind, len(r.Data), e)
	}
	return b
}

// putAll is records as written, one behind the other, and where each of them ends, 0 ahead of them.
func putAll(t *testing.T, records []api.Rec) ([]byte, []int) {
	t.Helper()
	var b []byte
	ends := []int{0}
	for _, r := range records {
		b = append(b, put(t, r)...)
		ends = append(ends, len(b))
	}
	return b, ends
}

func same(a, b api.Rec) bool { return a.Kind == b.Kind && bytes.Equal(a.Data, b.Data) }

func wantTaken(t *testing.T, b []byte, want api.Rec, long int) {
	t.Helper()
	r, n, e := rec.Take(b)
	if e != api.OK || n != long || !same(r, want) {
		t.Fatalf("Take: kind %d, %d bytes, takes %d, error %d; want kind %d, %d bytes, takes %d", r.Kind, len(r.Data), n, e, want.Kind, len(want.Data), long)
	}
}

func wantNone(t *testing.T, what string, b []byte, want api.Errno) {
	t.Helper()
	r, n, e := rec.Take(b)
	if e != want || n != 0 || r.Kind != 0 || len(r.Data) != 0 {
		t.Fatalf("Take of %s: %v, %d, error %d, want error %d", what, r, n, e, want)
	}
}

func wantAll(t *testing.T, what string, b []byte, want []api.Rec, long int, err api.Errno) {
	t.Helper()
	all, n, e := rec.All(b)
	if len(all) != len(want) || n != long || e != err {
		t.Fatalf("All of %s: %d records, %d bytes, error %d; want %d, %d, %d", what, len(all), n, e, len(want), long, err)
	}
	for i := range all {
		if !same(all[i], want[i]) {
			t.Fatalf("All of %s: record %d is %v, want %v", what, i, all[i], want[i])
		}
	}
}

// longs are lengths of records that may be, the least and the greatest among them.
var longs = []int{0, 1, 2, 3, 4, 5, 9, 127, 128, 255, 256, 257, 1000, api.MaxRecord - 1, api.MaxRecord}

// noKinds are the edges of the kinds that are none.
var noKinds = []uint8{0, 3, 4, 127, 128, 129, 130, 254, 255}

// P3.1

func TestPutIsTheBytesAsWritten(t *testing.T) {
	r := chance()
	for _, long := range longs {
		for _, b := range [][]byte{row(r, long), make([]byte, long), bytes.Repeat([]byte{0xFF}, long)} {
			for _, kind := range []uint8{api.RecData, api.RecCommit} {
				got := put(t, api.Rec{Kind: kind, Data: b})
				if want := written(kind, uint32(long), b); !bytes.Equal(got, want) {
					t.Fatalf("Put of kind %d, %d bytes: % x, want % x", kind, long, got, want)
				}
			}
		}
	}
}

func TestPutOfNoBytes(t *testing.T) {
	none, empty := put(t, api.Rec{Kind: 2}), put(t, api.Rec{Kind: 2, Data: []byte{}})
	if want := written(2, 0, nil); !bytes.Equal(none, want) || !bytes.Equal(empty, want) {
		t.Fatalf("Put of no bytes: % x and % x, want % x", none, empty, want)
	}
}

func TestPutOfAllKinds(t *testing.T) {
	for kind := range 256 {
		want := api.ErrRecord
		if kind == 1 || kind == 2 {
			want = api.OK
		}
		b, e := rec.Put(api.Rec{Kind: uint8(kind), Data: []byte{5}})
		if e != want || (e != api.OK) != (len(b) == 0) {
			t.Errorf("Put of kind %d: %v, error %d, want %d", kind, b, e, want)
		}
	}
}

func TestPutRefuses(t *testing.T) {
	for _, c := range []struct {
		kind uint8
		long int
		want api.Errno
	}{
		{1, api.MaxRecord + 1, api.ErrLong},
		{2, api.MaxRecord + 1, api.ErrLong},
		{1, 1 << 16, api.ErrLong},
		{2, 1 << 20, api.ErrLong},
		{0, 0, api.ErrRecord},
		{3, 0, api.ErrRecord},
		{255, api.MaxRecord, api.ErrRecord},
		{0, api.MaxRecord + 1, api.ErrRecord}, // the kind counts ahead of the length
		{3, api.MaxRecord + 1, api.ErrRecord},
		{255, 1 << 16, api.ErrRecord},
	} {
		if b, e := rec.Put(api.Rec{Kind: c.kind, Data: make([]byte, c.long)}); len(b) != 0 || e != c.want {
			t.Errorf("Put of kind %d, %d bytes: %d bytes, error %d, want none, %d", c.kind, c.long, len(b), e, c.want)
		}
	}
}

func TestLongOfAllThatMayBe(t *testing.T) {
	for n := range api.MaxRecord + 1 {
		if got := rec.Long(n); got != 9+n {
			t.Fatalf("Long(%d): %d, want %d", n, got, 9+n)
		}
	}
	for _, long := range longs {
		if got, want := rec.Long(long), len(put(t, data(make([]byte, long)...))); got != want {
			t.Errorf("Long(%d): %d, as written %d", long, got, want)
		}
	}
}

func TestLongOfWhatMayNotBe(t *testing.T) {
	for _, n := range []int{math.MinInt, math.MinInt32, -10, -9, -8, -1, api.MaxRecord + 1, api.MaxRecord + 2, 1 << 20, 1 << 32, 1<<32 + 5, math.MaxInt - 9, math.MaxInt} {
		if got := rec.Long(n); got != 0 {
			t.Errorf("Long(%d): %d, want 0", n, got)
		}
	}
}

// P3.2

func TestTakeOfBytesAsWritten(t *testing.T) {
	r := chance()
	for _, long := range longs {
		for _, kind := range []uint8{api.RecData, api.RecCommit} {
			b := row(r, long)
			wantTaken(t, written(kind, uint32(long), b), api.Rec{Kind: kind, Data: b}, 9+long)
		}
	}
}

func TestTakeOfLessThanAHead(t *testing.T) {
	wantNone(t, "nothing", nil, api.ErrTorn)
	wantNone(t, "an empty list", []byte{}, api.ErrTorn)
	for n := range 9 {
		wantNone(t, "noughts", make([]byte, n), api.ErrTorn)
		wantNone(t, "bits set", bytes.Repeat([]byte{0xFF}, n), api.ErrTorn) // whatever of a length is to be seen
		wantNone(t, "a record's begin", put(t, data())[:n], api.ErrTorn)
	}
}

// A length that may not be counts ahead of bytes that are missing, of the check sum, and of the kind.
func TestTakeOfLengthsToldThatAreTooGreat(t *testing.T) {
	for _, told := range []uint32{4097, 4098, 1<<12 + 1<<8, 1 << 13, 1 << 16, 1<<16 + 5, 1 << 24, 1 << 31, 1<<31 + 3, math.MaxUint32 - 8, math.MaxUint32} {
		for _, behind := range []int{0, 1, 5, 4096, 4097, 1 << 17} {
			for _, kind := range []uint8{0, 1, 2, 3, 255} {
				b := written(kind, told, make([]byte, behind))
				wantNone(t, "a length too great", b, api.ErrLong)
				b[0]++
				wantNone(t, "a length too great, another check sum", b, api.ErrLong)
			}
		}
	}
}

// Bytes that are missing count ahead of the check sum, and of the kind.
func TestTakeOfBytesThatEndWithinTheRecord(t *testing.T) {
	for _, told := range []int{1, 2, 3, 255, 256, api.MaxRecord} {
		for _, kind := range []uint8{0, 1, 2, 3, 255} {
			for _, there := range []int{0, 1, told / 2, told - 1} {
				b := written(kind, uint32(told), make([]byte, there%told))
				wantNone(t, "a record that is cut", b, api.ErrTorn)
				b[3]++
				wantNone(t, "a record that is cut, another check sum", b, api.ErrTorn)
			}
		}
	}
}

func TestTakeOfAnotherCheckSum(t *testing.T) {
	for _, kind := range []uint8{0, 1, 2, 3, 255} { // the check sum counts ahead of the kind
		for _, long := range longs {
			right := written(kind, uint32(long), make([]byte, long))
			for at := range 4 {
				for _, add := range []byte{1, 128, 255} {
					b := bytes.Clone(right)
					b[at] += add
					wantNone(t, "another check sum", b, api.ErrCheck)
				}
			}
		}
	}
	wantNone(t, "noughts", make([]byte, 9), api.ErrCheck)
}

func TestTakeOfAKindThatIsNone(t *testing.T) {
	for _, kind := range noKinds {
		for _, long := range longs {
			wantNone(t, "a kind that is none", written(kind, uint32(long), make([]byte, long)), api.ErrRecord)
		}
	}
	for kind := range 256 {
		_, _, e := rec.Take(written(uint8(kind), 1, []byte{7}))
		if (e == api.OK) != (kind == 1 || kind == 2) {
			t.Errorf("Take of kind %d: error %d", kind, e)
		}
	}
}

func TestTakeLeavesWhatStandsBehind(t *testing.T) {
	r := chance()
	for _, long := range longs {
		w := data(row(r, long)...)
		b := put(t, w)
		for _, more := range [][]byte{nil, {0}, make([]byte, 8), row(r, 9), row(r, 5000), put(t, commit(1, 0)), bytes.Repeat([]byte{0xFF}, 20)} {
			wantTaken(t, append(bytes.Clone(b), more...), w, len(b))
		}
	}
}

func TestTakenIsInMemoryOfItsOwn(t *testing.T) {
	b := put(t, data(1, 2, 3))
	kept := bytes.Clone(b)
	r, _, _ := rec.Take(b)
	again, _, _ := rec.Take(b)
	for i := range r.Data {
		r.Data[i] = 99
	}
	_ = append(r.Data, 98, 97, 96)
	if !bytes.Equal(b, kept) {
		t.Fatal("what is taken shares memory with what it was taken of")
	}
	clear(b)
	if !same(again, data(1, 2, 3)) {
		t.Fatalf("what was taken changed: %v", again)
	}
}

// P3.3

func TestAllOfNothing(t *testing.T) {
	wantAll(t, "nothing", nil, nil, 0, api.OK)
	wantAll(t, "an empty list", []byte{}, nil, 0, api.OK)
}

func TestAllOfRecords(t *testing.T) {
	r := chance()
	var records []api.Rec
	for _, long := range longs {
		records = append(records, data(row(r, long)...), commit(row(r, long)...))
	}
	for n := range len(records) + 1 {
		b, ends := putAll(t, records[:n])
		wantAll(t, "records", b, records[:n], ends[n], api.OK)
	}
}

func TestAllOfManyRecords(t *testing.T) {
	one := put(t, data())
	all, n, e := rec.All(bytes.Repeat(one, 50000))
	if len(all) != 50000 || n != 450000 || e != api.OK {
		t.Fatalf("All: %d records, %d bytes, error %d", len(all), n, e)
	}
}

// What is none ends it, also if there are records behind.
func TestAllUpToTheFirstThatIsNone(t *testing.T) {
	turned := put(t, data(4, 5, 6))
	turned[len(turned)-1]++
	right := []api.Rec{data(1, 2), commit(1, 0), data()}
	behind := put(t, data(9))
	for _, c := range []struct {
		what string
		none []byte
		want api.Errno
	}{
		{"another check sum", append(turned, behind...), api.ErrCheck},
		{"noughts", make([]byte, 9), api.ErrCheck},
		{"kind 0", append(written(0, 0, nil), behind...), api.ErrRecord},
		{"kind 3", append(written(3, 1, []byte{1}), behind...), api.ErrRecord},
		{"kind 255", append(written(255, 0, nil), behind...), api.ErrRecord},
		{"one byte too many", append(written(1, 4097, make([]byte, 4097)), behind...), api.ErrLong},
		{"the greatest length", append(written(1, math.MaxUint32, nil), behind...), api.ErrLong},
		{"a byte", []byte{1}, api.ErrTorn},
		{"less than a head", behind[:8], api.ErrTorn},
		{"a head without its bytes", behind[:9], api.ErrTorn},
		{"a length past the end", append(written(2, 4096, nil), behind...), api.ErrTorn},
	} {
		for n := range len(right) + 1 {
			b, ends := putAll(t, right[:n])
			wantAll(t, c.what, append(b, c.none...), right[:n], ends[n], c.want)
		}
	}
}

func TestAllIsInMemoryOfItsOwn(t *testing.T) {
	want := []api.Rec{data(1, 2, 3), commit(1, 0), data(4)}
	b, _ := putAll(t, want)
	kept := bytes.Clone(b)
	all, _, _ := rec.All(b)
	again, _, _ := rec.All(b)
	for _, i := range []int{0, 2} { // the one between must stay
		for k := range all[i].Data {
			all[i].Data[k] = 99
		}
		_ = append(all[i].Data, 98, 97, 96, 95, 94, 93, 92, 91, 90, 89)
	}
	if !same(all[1], want[1]) {
		t.Fatalf("two records share memory: %v", all[1])
	}
	if !bytes.Equal(b, kept) {
		t.Fatal("records share memory with what they were taken of")
	}
	clear(b)
	for i := range again {
		if !same(again[i], want[i]) {
			t.Fatalf("record %d changed: %v, want %v", i, again[i], want[i])
		}
	}
}

// P3.4

func TestWhatIsPutIsTaken(t *testing.T) {
	r := chance()
	for range 2000 {
		w := api.Rec{Kind: uint8(1 + r.IntN(2)), Data: row(r, r.IntN(60))}
		b := put(t, w)
		wantTaken(t, append(b, row(r, r.IntN(30))...), w, 9+len(w.Data))
	}
}

// cutEverywhere holds All against what is there whole of records, cut at each place.
func cutEverywhere(t *testing.T, records []api.Rec) {
	t.Helper()
	b, ends := putAll(t, records)
	whole := 0
	for k := range len(b) + 1 {
		if whole < len(records) && k >= ends[whole+1] {
			whole++
		}
		want := api.ErrTorn
		if k == ends[whole] {
			want = api.OK
		}
		wantAll(t, "records that are cut", b[:k], records[:whole], ends[whole], want)
	}
}

func TestRecordsCutEverywhere(t *testing.T) {
	cutEverywhere(t, []api.Rec{data()})
	cutEverywhere(t, []api.Rec{data(), commit(), data()})
	cutEverywhere(t, []api.Rec{data(1, 2, 3), data(), commit(2, 0), data(0), commit(1, 0), data(make([]byte, 300)...)})
	r := chance()
	for range 30 {
		var records []api.Rec
		for range r.IntN(7) {
			records = append(records, api.Rec{Kind: uint8(1 + r.IntN(2)), Data: row(r, r.IntN(20))})
		}
		cutEverywhere(t, records)
	}
}

func TestTheLongestRecordCut(t *testing.T) {
	w := data(row(chance(), api.MaxRecord)...)
	b := put(t, w)
	for _, k := range []int{0, 1, 8, 9, 10, 2000, len(b) - 2, len(b) - 1} {
		wantNone(t, "the longest record, cut", b[:k], api.ErrTorn)
	}
	wantTaken(t, b, w, len(b))
}

func TestABitTurnedAbout(t *testing.T) {
	r := chance()
	for _, w := range []api.Rec{data(), commit(), data(0), commit(1, 0), data([]byte("ab")...), data(make([]byte, 50)...), commit(row(r, 300)...)} {
		right := put(t, w)
		for i := range 8 * len(right) {
			at := i / 8
			b := bytes.Clone(right)
			b[at] ^= 1 << (i % 8)
			if at >= 5 && at < 9 {
				continue // of another length it is not told
			}
			wantNone(t, "a bit turned about", b, api.ErrCheck)
			wantNone(t, "a bit turned about, and more behind", append(b, right...), api.ErrCheck)
			wantAll(t, "a bit turned about", append(bytes.Clone(right), b...), []api.Rec{w}, len(right), api.ErrCheck)
		}
	}
}

// model is the chapter's words of Take, said as plainly as can be.
func model(b []byte) (api.Rec, int, api.Errno) {
	if len(b) < 9 {
		return api.Rec{}, 0, api.ErrTorn
	}
	told := uint64(binary.LittleEndian.Uint32(b[5:9]))
	switch {
	case told > 4096:
		return api.Rec{}, 0, api.ErrLong
	case told > uint64(len(b)-9):
		return api.Rec{}, 0, api.ErrTorn
	case crc32.ChecksumIEEE(b[4:9+told]) != binary.LittleEndian.Uint32(b):
		return api.Rec{}, 0, api.ErrCheck
	case b[4] != 1 && b[4] != 2:
		return api.Rec{}, 0, api.ErrRecord
	}
	return api.Rec{Kind: b[4], Data: bytes.Clone(b[9 : 9+told])}, int(9 + told), api.OK
}

// anyBytes is bytes that are records, or nearly so, drawn.
func anyBytes(r *rand.Rand) []byte {
	var b []byte
	for range r.IntN(4) {
		w := row(r, r.IntN(12))
		told := uint32(len(w))
		switch r.IntN(8) {
		case 0:
			told = uint32(r.IntN(15))
		case 1:
			told = 4090 + uint32(r.IntN(12))
		}
		b = append(b, written(uint8(r.IntN(12)/4+r.IntN(2)), told, w)...)
	}
	if len(b) > 0 && r.IntN(4) == 0 {
		b[r.IntN(len(b))] ^= 1 << r.IntN(8)
	}
	return append(b, row(r, r.IntN(3)*r.IntN(9))...)
}

func TestDrawnBytes(t *testing.T) {
	r := chance()
	for range 20000 {
		b := anyBytes(r)
		var want []api.Rec
		at, err := 0, api.OK
		for at < len(b) && err == api.OK {
			w, n, e := model(b[at:])
			if e == api.OK {
				wantTaken(t, b[at:], w, n)
				want = append(want, w)
			} else {
				wantNone(t, "drawn bytes", b[at:], e)
			}
			at, err = at+n, e
		}
		wantAll(t, "drawn bytes", b, want, at, err)
	}
}

// What is handed in stays as it was, with its spare room; and what is in the spare room is not read.

func TestWhatIsHandedInStays(t *testing.T) {
	room := []byte("ab and the spare room behind it, of which nothing may be changed")
	kept := bytes.Clone(room)
	b := put(t, data(room[:2]...))
	if !bytes.Equal(room, kept) {
		t.Fatal("Put changed its record's bytes, or those behind them")
	}
	clear(b)
	if !bytes.Equal(room, kept) {
		t.Fatal("Put's answer shares memory with the record")
	}

	room = append(append(put(t, data(1, 2)), put(t, commit(1, 0))...), put(t, data(3))...)
	kept = bytes.Clone(room)
	for k := range len(room) + 1 {
		cut, _, took := rec.Take(room[:k])
		own, _, tookOwn := rec.Take(room[:k:k])
		all, n, e := rec.All(room[:k])
		allOwn, nOwn, eOwn := rec.All(room[:k:k])
		if !same(cut, own) || took != tookOwn || len(all) != len(allOwn) || n != nOwn || e != eOwn {
			t.Fatalf("%d bytes are read otherwise with spare room", k)
		}
		if !bytes.Equal(room, kept) {
			t.Fatalf("Take or All of %d bytes changed them, or those behind", k)
		}
	}
}

func TestAnswersAreNew(t *testing.T) {
	w := data(1, 2, 3)
	a, b := put(t, w), put(t, w)
	clear(a)
	if c := put(t, w); !bytes.Equal(b, c) || !same(w, data(1, 2, 3)) {
		t.Fatalf("two answers share memory: %v, %v", b, c)
	}
}

// The chapter's examples.

func TestExamples(t *testing.T) {
	w := data([]byte("ab")...)
	b := put(t, w)
	if len(b) != 11 || !bytes.Equal(b[4:9], []byte{1, 2, 0, 0, 0}) || string(b[9:]) != "ab" {
		t.Fatalf("Put: % x", b)
	}
	wantTaken(t, append(bytes.Clone(b), 7), w, 11)
	wantNone(t, "8 bytes", b[:8], api.ErrTorn)
	wantNone(t, "10 of these", b[:10], api.ErrTorn)
	other := bytes.Clone(b)
	other[10] = 'c'
	wantNone(t, "these with the last one another", other, api.ErrCheck)
	second := put(t, commit(1, 0))
	both := append(bytes.Clone(b), second...)
	wantAll(t, "two records, and 3 bytes", append(both, 1, 2, 3), []api.Rec{w, commit(1, 0)}, 22, api.ErrTorn)
}
