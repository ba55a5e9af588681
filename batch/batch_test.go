package batch_test

import (
	"bytes"
	"encoding/binary"
	"hash/crc32"
	"math/rand/v2"
	"testing"

	"foreman/api"
	"foreman/batch"
	"foreman/rec"
)

// chance is the same in each run.
func chance() *rand.Rand { return rand.New(rand.NewPCG(4, 4)) }

func row(r *rand.Rand, long int) []byte {
	b := make([]byte, long)
	for i := range b {
		b[i] = byte(r.Uint32())
	}
	return b
}

// rowsOf is texts as rows.
func rowsOf(texts ...string) [][]byte {
	var rows [][]byte
	for _, s := range texts {
		rows = append(rows, []byte(s))
	}
	return rows
}

// record is the chapter's words of a record's bytes, of any kind, with any length told, with the library's means.
func record(kind uint8, told uint32, b []byte) []byte {
	under := append(binary.LittleEndian.AppendUint32([]byte{kind}, told), b...)
	return append(binary.LittleEndian.AppendUint32(nil, crc32.ChecksumIEEE(under)), under...)
}

func data(b ...byte) []byte   { return record(1, uint32(len(b)), b) }
func commit(b ...byte) []byte { return record(2, uint32(len(b)), b) }

// glued is parts, one behind the other, in memory of their own.
func glued(parts ...[]byte) []byte { return bytes.Join(parts, nil) }

// written is the chapter's words of a batch, with the end telling as many rows as there are.
func written(rows [][]byte) []byte {
	var b []byte
	for _, one := range rows {
		b = append(b, data(one...)...)
	}
	return append(b, commit(binary.LittleEndian.AppendUint16(nil, uint16(len(rows)))...)...)
}

func put(t *testing.T, rows [][]byte) []byte {
	t.Helper()
	b, e := batch.Put(rows)
	if e != api.OK {
		t.Fatalf("Put of %d rows: error %d", len(rows), e)
	}
	return b
}

func same(a, b [][]byte) bool {
	if len(a) != len(b) {
		return false
	}
	for i := range a {
		if !bytes.Equal(a[i], b[i]) {
			return false
		}
	}
	return true
}

func cloned(rows [][]byte) [][]byte {
	var c [][]byte
	for _, one := range rows {
		c = append(c, bytes.Clone(one))
	}
	return c
}

func wantScan(t *testing.T, what string, b []byte, want [][][]byte, end int, err api.Errno) {
	t.Helper()
	l, n, e := batch.Scan(b)
	if len(l) != len(want) || n != end || e != err {
		t.Fatalf("Scan of %s: %d batches, %d bytes, error %d; want %d, %d, %d", what, len(l), n, e, len(want), end, err)
	}
	for i := range l {
		if !same(l[i], want[i]) {
			t.Fatalf("Scan of %s: batch %d has %d rows %.200v, want %d: %.200v", what, i, len(l[i]), l[i], len(want[i]), want[i])
		}
	}
}

func wantRefused(t *testing.T, what string, rows [][]byte, want api.Errno) {
	t.Helper()
	if b, e := batch.Put(rows); len(b) != 0 || e != want {
		t.Errorf("Put of %s: %d bytes, error %d, want none, %d", what, len(b), e, want)
	}
	if n, e := batch.Long(rows); n != 0 || e != want {
		t.Errorf("Long of %s: %d, error %d, want 0, %d", what, n, e, want)
	}
}

// rightRows are rows that a batch may have: as few and as many, as short and as long as may be.
func rightRows(r *rand.Rand) [][][]byte {
	l := [][][]byte{
		{nil}, {{}}, {{0}}, {{255}}, rowsOf("ab"), {nil, nil}, rowsOf("", "a", "", "bc", ""),
		{row(r, api.MaxRecord)}, {row(r, api.MaxRecord-1), nil},
		{row(r, api.MaxRecord), {1}, row(r, api.MaxRecord), nil, row(r, api.MaxRecord)},
	}
	for _, n := range []int{2, 3, 254, 255, 256, 257, 511, 512, api.MaxRows - 1, api.MaxRows} {
		rows := make([][]byte, n)
		for i := range rows {
			rows[i] = row(r, r.IntN(4))
		}
		l = append(l, rows, make([][]byte, n))
	}
	return l
}

// P4.1

func TestPutIsTheBatchAsWritten(t *testing.T) {
	for i, rows := range rightRows(chance()) {
		if got, want := put(t, rows), written(rows); !bytes.Equal(got, want) {
			t.Errorf("Put %d: %d rows, %d bytes, want %d bytes: %.100x, want %.100x", i, len(rows), len(got), len(want), got, want)
		}
	}
}

func TestTheEndTellsHowManyRows(t *testing.T) {
	for n := 1; n <= api.MaxRows; n++ {
		b := put(t, make([][]byte, n))
		if end := b[len(b)-2:]; len(b) != 9*n+11 || end[0] != byte(n%256) || end[1] != byte(n/256) {
			t.Fatalf("Put of %d rows: %d bytes, the end tells %v", n, len(b), end)
		}
	}
}

func TestLongIsHowManyBytesArePut(t *testing.T) {
	for i, rows := range rightRows(chance()) {
		n, e := batch.Long(rows)
		if want := len(put(t, rows)); n != want || e != api.OK {
			t.Errorf("Long %d: %d, error %d, want %d", i, n, e, want)
		}
	}
}

func TestTheGreatestBatch(t *testing.T) {
	r := chance()
	rows := make([][]byte, api.MaxRows)
	for i := range rows {
		rows[i] = row(r, api.MaxRecord)
	}
	b := put(t, rows)
	n, e := batch.Long(rows)
	if want := 1024*(9+4096) + 11; len(b) != want || n != want || e != api.OK {
		t.Fatalf("Put: %d bytes, Long: %d, error %d, want %d", len(b), n, e, want)
	}
	wantScan(t, "the greatest batch", b, [][][]byte{rows}, len(b), api.OK)
	wantScan(t, "the greatest batch but a byte", b[:len(b)-1], nil, 0, api.ErrTorn)
}

func TestPutRefusesNoRowsAndTooMany(t *testing.T) {
	wantRefused(t, "none", nil, api.ErrBatch)
	wantRefused(t, "an empty list", [][]byte{}, api.ErrBatch)
	wantRefused(t, "no rows, with room for some", make([][]byte, 0, 5), api.ErrBatch)
	for _, n := range []int{1025, 1026, 2048, 1 << 16, 1<<16 + 1} {
		wantRefused(t, "too many", make([][]byte, n), api.ErrBatch)
	}
}

func TestPutRefusesARowThatIsTooLong(t *testing.T) {
	for _, n := range []int{1, 2, 3, 1023, 1024} {
		for _, at := range []int{0, n / 2, n - 1} {
			for _, long := range []int{4097, 4098, 1 << 16} {
				rows := make([][]byte, n)
				rows[at] = make([]byte, long)
				wantRefused(t, "a row too long", rows, api.ErrLong)
				rows[at] = rows[at][:4096]
				if e := errOf(batch.Put(rows)); e != api.OK {
					t.Errorf("Put of %d rows, row %d of 4096 bytes: error %d", n, at, e)
				}
			}
		}
	}
}

func errOf(_ []byte, e api.Errno) api.Errno { return e }

// How many rows there are counts ahead of how long one is.
func TestPutRefusesTooManyAheadOfTooLong(t *testing.T) {
	for _, at := range []int{0, 500, 1023, 1024} {
		rows := make([][]byte, 1025)
		rows[at] = make([]byte, 4097)
		wantRefused(t, "too many, one too long", rows, api.ErrBatch)
	}
}

// P4.2

func TestScanOfNothing(t *testing.T) {
	wantScan(t, "nothing", nil, nil, 0, api.OK)
	wantScan(t, "an empty list", []byte{}, nil, 0, api.OK)
}

func TestScanOfBatches(t *testing.T) {
	all := rightRows(chance())
	var b []byte
	for i, rows := range all {
		wantScan(t, "one batch", written(rows), [][][]byte{rows}, len(written(rows)), api.OK)
		b = append(b, written(rows)...)
		wantScan(t, "batches", b, all[:i+1], len(b), api.OK)
	}
}

func TestScanOfManyBatches(t *testing.T) {
	one := put(t, [][]byte{nil})
	l, n, e := batch.Scan(bytes.Repeat(one, 20000))
	if len(l) != 20000 || n != 400000 || e != api.OK {
		t.Fatalf("Scan: %d batches, %d bytes, error %d", len(l), n, e)
	}
}

func TestScanOfEndsThatAreWrong(t *testing.T) {
	one := glued(data('r'))
	two := glued(data('r'), data())
	many := bytes.Repeat(data(), 256)
	most := bytes.Repeat(data(), 1024)
	for _, c := range []struct{ kept, end []byte }{
		{one, commit(2, 0)}, {one, commit(0, 0)}, {one, commit(1, 1)}, {one, commit(0, 1)}, {one, commit(255, 255)}, {one, commit(254, 255)},
		{one, commit()}, {one, commit(1)}, {one, commit(1, 0, 0)}, {one, commit(1, 0, 0, 0)}, {one, commit(make([]byte, 4096)...)},
		{two, commit(1, 0)}, {two, commit(3, 0)}, {two, commit(2)}, {two, commit(2, 0, 0)}, {two, commit(0, 2)},
		{many, commit(0, 0)}, {many, commit(1, 0)}, {many, commit(0)}, {many, commit(0, 1, 0)}, {many, commit(255, 0)}, {many, commit(1, 1)},
		{most, commit(0, 0)}, {most, commit(0, 3)}, {most, commit(0)}, {most, commit(1, 4)}, {most, commit(255, 3)}, {most, commit(4, 0)},
		{nil, commit(0, 0)}, {nil, commit(1, 0)}, {nil, commit()}, {nil, commit(0)}, {nil, commit(0, 0, 0)}, // with nothing kept
	} {
		b := glued(c.kept, c.end)
		wantScan(t, "a wrong end", b, nil, 0, api.ErrBatch)
		ahead := written(rowsOf("x", "y"))
		for _, behind := range [][]byte{nil, {7}, commit(1, 0), ahead} {
			wantScan(t, "a wrong end between others", glued(ahead, b, behind), [][][]byte{rowsOf("x", "y")}, len(ahead), api.ErrBatch)
		}
	}
}

// What a batch kept is not kept behind its end.
func TestScanBehindAnEndKeepsNothing(t *testing.T) {
	first := written(rowsOf("a"))
	want := [][][]byte{rowsOf("a")}
	wantScan(t, "a second end", glued(first, commit(1, 0)), want, 21, api.ErrBatch)
	wantScan(t, "a row, and an end that tells all", glued(first, data('b'), commit(2, 0)), want, 21, api.ErrBatch)
	wantScan(t, "a row, and its end", glued(first, data('b'), commit(1, 0)), [][][]byte{rowsOf("a"), rowsOf("b")}, 42, api.OK)
}

func TestScanOfTooManyRowsKept(t *testing.T) {
	most := bytes.Repeat(data(), 1024)
	ahead := written(rowsOf("x"))
	for _, lead := range [][]byte{nil, ahead} {
		var want [][][]byte
		if lead != nil {
			want = [][][]byte{rowsOf("x")}
		}
		end := len(lead)
		wantScan(t, "1023 rows", glued(lead, most[9:]), want, end, api.ErrTorn)
		wantScan(t, "1024 rows", glued(lead, most), want, end, api.ErrTorn)
		wantScan(t, "1025 rows", glued(lead, most, data()), want, end, api.ErrBatch)
		wantScan(t, "1025 rows and their end", glued(lead, most, data(), commit(1, 4)), want, end, api.ErrBatch)
		wantScan(t, "1025 rows and the end of 1024", glued(lead, most, data(), commit(0, 4)), want, end, api.ErrBatch)
		wantScan(t, "1024 rows and their end", glued(lead, most, commit(0, 4)), append(want, make([][]byte, 1024)), end+1024*9+11, api.OK)
		// it is wrong at the one too many, and that is none till it is there whole
		wantScan(t, "1024 rows and a piece", glued(lead, most, data()[:8]), want, end, api.ErrTorn)
		wantScan(t, "1024 rows and a piece with a length", glued(lead, most, data(5)[:9]), want, end, api.ErrTorn)
		wantScan(t, "1024 rows and no record", glued(lead, most, make([]byte, 9)), want, end, api.ErrCheck)
		wantScan(t, "1025 rows and a piece", glued(lead, most, data(), []byte{1}), want, end, api.ErrBatch)
		wantScan(t, "1025 rows and no record", glued(lead, most, data(), make([]byte, 9)), want, end, api.ErrBatch)
	}
}

// The record's error is told, whether something is kept or not, and whatever stands behind.
func TestScanOfRecordsThatAreNone(t *testing.T) {
	turned := data(4, 5, 6)
	turned[len(turned)-1]++
	for _, c := range []struct {
		what string
		none []byte
		want api.Errno
	}{
		{"another check sum", turned, api.ErrCheck},
		{"noughts", make([]byte, 9), api.ErrCheck},
		{"kind 0", record(0, 0, nil), api.ErrRecord},
		{"kind 3", record(3, 2, []byte{1, 0}), api.ErrRecord},
		{"kind 255", record(255, 0, nil), api.ErrRecord},
		{"one byte too many", record(1, 4097, make([]byte, 4097)), api.ErrLong},
		{"the greatest length", record(2, 1<<32-1, nil), api.ErrLong},
		{"a length past the end", record(1, 4096, nil), api.ErrTorn},
	} {
		for _, behind := range [][]byte{nil, written(rowsOf("z"))} {
			none := glued(c.none, behind)
			ahead := written(rowsOf("x", "y"))
			want := [][][]byte{rowsOf("x", "y")}
			wantScan(t, c.what+", first", none, nil, 0, c.want)
			wantScan(t, c.what+", behind a row", glued(data('r'), none), nil, 0, c.want)
			wantScan(t, c.what+", behind a batch", glued(ahead, none), want, len(ahead), c.want)
			wantScan(t, c.what+", behind a batch and a row", glued(ahead, data('r'), none), want, len(ahead), c.want)
			wantScan(t, c.what+", behind a wrong end", glued(ahead, commit(0, 0), none), want, len(ahead), api.ErrBatch)
		}
	}
}

func TestScanOfBytesThatEndWithinABatch(t *testing.T) {
	ahead := written(rowsOf("x"))
	want := [][][]byte{rowsOf("x")}
	for _, c := range []struct {
		what string
		rest []byte
		err  api.Errno
	}{
		{"between batches", nil, api.OK},
		{"a byte on", []byte{1}, api.ErrTorn},
		{"within a row's head", data('a')[:8], api.ErrTorn},
		{"behind a row's head", data('a')[:9], api.ErrTorn},
		{"within a row", data('a', 'b')[:10], api.ErrTorn},
		{"between two records", data('a'), api.ErrTorn},
		{"behind two rows", glued(data('a'), data()), api.ErrTorn},
		{"within the end's head", glued(data('a'), commit(1, 0)[:5]), api.ErrTorn},
		{"within the end's bytes", glued(data('a'), commit(1, 0)[:10]), api.ErrTorn},
	} {
		wantScan(t, c.what, glued(ahead, c.rest), want, len(ahead), c.err)
		wantScan(t, c.what+", with no batch", c.rest, nil, 0, c.err)
	}
}

func TestScannedIsInMemoryOfItsOwn(t *testing.T) {
	want := [][][]byte{rowsOf("abc", "de", ""), rowsOf("f"), rowsOf("ghi", "j", "k", "l")}
	var b []byte
	for _, rows := range want {
		b = append(b, written(rows)...)
	}
	kept := bytes.Clone(b)
	l, _, _ := batch.Scan(b)
	again, _, _ := batch.Scan(b)
	for i := range l { // each row in turn is spoilt: all behind it must stand yet
		for k := range l[i] {
			if !bytes.Equal(l[i][k], want[i][k]) {
				t.Fatalf("row %d of batch %d shares memory with another: %q", k, i, l[i][k])
			}
			spoil(l[i][k])
		}
		if i+1 < len(l) {
			_ = append(l[i], []byte("none"), []byte("none"), []byte("none"), []byte("none"))
			l[i][0] = nil
			if !same(l[i+1], want[i+1]) {
				t.Fatalf("the lists of batches %d and %d share memory", i, i+1)
			}
		}
	}
	if !bytes.Equal(b, kept) {
		t.Fatal("rows share memory with the bytes that they were read of")
	}
	clear(b)
	for i := range again {
		if !same(again[i], want[i]) {
			t.Fatalf("batch %d changed: %q", i, again[i])
		}
	}
}

// spoil writes over all that b reaches, its spare room too.
func spoil(b []byte) {
	b = b[:cap(b)]
	for i := range b {
		b[i] ^= 0xA5
	}
}

// P4.3

func TestCutOfNothing(t *testing.T) {
	for _, b := range [][]byte{nil, {}, make([]byte, 0, 9)} {
		if rows := batch.Cut(b); len(rows) != 1 || len(rows[0]) != 0 {
			t.Fatalf("Cut of nothing: %v", rows)
		}
	}
}

func TestCutIsRowsOfMaxRecord(t *testing.T) {
	r := chance()
	for _, long := range []int{1, 2, 4095, 4096, 4097, 8191, 8192, 8193, 3*4096 - 1, 3 * 4096, 3*4096 + 1, 1024 * 4096, 1024*4096 + 1} {
		b := row(r, long)
		rows := batch.Cut(b)
		if want := (long + 4095) / 4096; len(rows) != want {
			t.Fatalf("Cut of %d bytes: %d rows, want %d", long, len(rows), want)
		}
		for i, one := range rows {
			if want := b[4096*i : min(4096*(i+1), long)]; !bytes.Equal(one, want) {
				t.Fatalf("Cut of %d bytes: row %d of %d has %d bytes, or others, want %d", long, i, len(rows), len(one), len(want))
			}
		}
	}
}

func TestGlueIsOneBehindTheOther(t *testing.T) {
	for _, c := range []struct {
		rows [][]byte
		want string
	}{
		{nil, ""}, {[][]byte{}, ""}, {[][]byte{nil}, ""}, {[][]byte{{}, nil, {}}, ""},
		{rowsOf("ab"), "ab"}, {rowsOf("a", "b", "c"), "abc"}, {rowsOf("", "c", "", "ba", ""), "cba"},
	} {
		if got := batch.Glue(c.rows); string(got) != c.want {
			t.Errorf("Glue of %q: %q, want %q", c.rows, got, c.want)
		}
	}
}

// Glue has no bounds of a batch's: neither of rows nor of bytes.
func TestGlueOfMoreThanABatch(t *testing.T) {
	r := chance()
	long := row(r, 3*4096+5)
	if got := batch.Glue([][]byte{long, {1}, long}); !bytes.Equal(got, glued(long, []byte{1}, long)) {
		t.Errorf("Glue of long rows: %d bytes", len(got))
	}
	many := make([][]byte, 5000)
	for i := range many {
		many[i] = []byte{byte(i)}
	}
	if got := batch.Glue(many); !bytes.Equal(got, bytes.Join(many, nil)) {
		t.Errorf("Glue of 5000 rows: %d bytes", len(got))
	}
}

func TestWhatIsCutIsGlued(t *testing.T) {
	r := chance()
	for _, long := range []int{0, 1, 4095, 4096, 4097, 8191, 8192, 8193, 50000} {
		b := row(r, long)
		rows := batch.Cut(b)
		if got := batch.Glue(rows); !bytes.Equal(got, b) {
			t.Fatalf("%d bytes, cut and glued, are %d, or others", long, len(got))
		}
		wantScan(t, "what was cut", put(t, rows), [][][]byte{rows}, long+9*len(rows)+11, api.OK)
	}
}

func TestCutAndGlueAreInMemoryOfTheirOwn(t *testing.T) {
	b := row(chance(), 2*4096+7)
	kept := bytes.Clone(b)
	rows := batch.Cut(b)
	for i := range rows {
		if !bytes.Equal(rows[i], kept[4096*i:min(4096*(i+1), len(kept))]) {
			t.Fatalf("row %d shares memory with one ahead of it", i)
		}
		spoil(rows[i])
	}
	if !bytes.Equal(b, kept) {
		t.Fatal("rows share memory with what was cut")
	}
	for _, rows := range [][][]byte{rowsOf("ab"), rowsOf("ab", "cd"), rowsOf("", "ab"), rowsOf("ab", "")} {
		want := cloned(rows)
		spoil(batch.Glue(rows))
		if !same(rows, want) {
			t.Fatalf("what is glued shares memory with its rows: %q", rows)
		}
	}
}

// P4.4

// cutEverywhere holds Scan against what is there whole of batches, cut at each place.
func cutEverywhere(t *testing.T, all [][][]byte) {
	t.Helper()
	var b []byte
	ends := []int{0}
	for _, rows := range all {
		b = append(b, put(t, rows)...)
		ends = append(ends, len(b))
	}
	whole := 0
	for k := range len(b) + 1 {
		if whole < len(all) && k == ends[whole+1] {
			whole++
		}
		want := api.ErrTorn
		if k == ends[whole] {
			want = api.OK
		}
		wantScan(t, "batches that are cut", b[:k], all[:whole], ends[whole], want)
	}
}

func TestBatchesCutEverywhere(t *testing.T) {
	r := chance()
	cutEverywhere(t, nil)
	cutEverywhere(t, [][][]byte{{nil}})
	cutEverywhere(t, [][][]byte{{nil}, {nil, nil}, {nil}})
	cutEverywhere(t, [][][]byte{rowsOf("one", "", "three"), rowsOf("x"), rowsOf("", "", ""), {row(r, 300), row(r, 2)}})
	for range 30 {
		var all [][][]byte
		for range r.IntN(5) {
			rows := make([][]byte, 1+r.IntN(5))
			for i := range rows {
				rows[i] = row(r, r.IntN(20))
			}
			all = append(all, rows)
		}
		cutEverywhere(t, all)
	}
}

// Rows whose bytes look like records are bytes of a row yet.
func TestRowsThatLookLikeBatches(t *testing.T) {
	all := [][][]byte{{commit(1, 0), data('a'), written(rowsOf("b"))}, {glued(commit(2, 0), commit(1, 0))}}
	cutEverywhere(t, all)
}

func TestWholeBatchesAreToldWhateverIsBehind(t *testing.T) {
	r := chance()
	all := [][][]byte{rowsOf("one", "two"), {nil}, rowsOf("3")}
	var b []byte
	for n := range len(all) + 1 {
		for range 2000 {
			behind := anyBytes(r)
			l, end, _ := batch.Scan(glued(b, behind))
			more, long, _ := batch.Scan(behind)
			if len(l) != n+len(more) || end != len(b)+long {
				t.Fatalf("%d batches and %x: %d batches, %d bytes", n, behind, len(l), end)
			}
			for i := range n {
				if !same(l[i], all[i]) {
					t.Fatalf("%d batches and %x: batch %d is %q", n, behind, i, l[i])
				}
			}
		}
		if n < len(all) {
			b = append(b, put(t, all[n])...)
		}
	}
}

// A bit turned about, but of a length, leaves those ahead, and of its batch and those behind nothing.
func TestABitTurnedAbout(t *testing.T) {
	first, second, third := rowsOf("ab", ""), rowsOf("c", "de"), rowsOf("f")
	ahead, b, behind := put(t, first), put(t, second), put(t, third)
	long := map[int]int{} // places of lengths
	for at := 0; at < len(b); {
		_, n, _ := rec.Take(b[at:])
		for i := range 4 {
			long[at+5+i]++
		}
		at += n
	}
	for i := range 8 * len(b) {
		if long[i/8] > 0 {
			continue
		}
		turned := bytes.Clone(b)
		turned[i/8] ^= 1 << (i % 8)
		wantScan(t, "a bit turned about", glued(ahead, turned, behind), [][][]byte{first}, len(ahead), api.ErrCheck)
	}
}

// model is the chapter's words of Scan, upon all records at once.
func model(b []byte) ([][][]byte, int, api.Errno) {
	records, _, last := rec.All(b)
	var whole [][][]byte
	kept := [][]byte{}
	at, end := 0, 0
	for _, r := range records {
		at += 9 + len(r.Data)
		if r.Kind == 1 {
			kept = append(kept, r.Data)
			if len(kept) == 1025 {
				return whole, end, api.ErrBatch
			}
			continue
		}
		if len(r.Data) != 2 || int(r.Data[0])+256*int(r.Data[1]) != len(kept) || len(kept) == 0 {
			return whole, end, api.ErrBatch
		}
		whole, kept, end = append(whole, kept), [][]byte{}, at
	}
	if last == api.OK && len(kept) > 0 {
		last = api.ErrTorn
	}
	return whole, end, last
}

// anyBytes is bytes that are batches, or nearly so, drawn.
func anyBytes(r *rand.Rand) []byte {
	var b []byte
	for range r.IntN(4) {
		n := r.IntN(4)
		for range n {
			b = append(b, data(row(r, r.IntN(6))...)...)
		}
		end := []byte{byte(n), 0, 0}[:2]
		switch r.IntN(10) {
		case 0:
			end = end[:r.IntN(4)]
		case 1:
			end[r.IntN(2)] ^= byte(r.IntN(3))
		}
		if r.IntN(10) > 0 && (n > 0 || r.IntN(4) == 0) {
			b = append(b, commit(end...)...)
		}
	}
	switch {
	case len(b) > 0 && r.IntN(5) == 0:
		b[r.IntN(len(b))] ^= 1 << r.IntN(8)
	case r.IntN(5) == 0:
		b = b[:r.IntN(len(b)+1)]
	case r.IntN(5) == 0:
		b = append(b, record(uint8(r.IntN(5)), uint32(r.IntN(2)), nil)...)
	}
	return append(b, row(r, r.IntN(2)*r.IntN(12))...)
}

func TestDrawnBytes(t *testing.T) {
	r := chance()
	for range 30000 {
		b := anyBytes(r)
		want, end, err := model(b)
		wantScan(t, "drawn bytes", b, want, end, err)
	}
}

// What is handed in stays as it was, with its spare room; and what is in the spare room is not read.

func TestRowsHandedInStay(t *testing.T) {
	room := []byte("ab and the spare room behind it, of which nothing may be changed")
	list := [][]byte{room[:2], room[2:2], room[3:6], []byte("not handed in"), nil}
	kept, keptList := bytes.Clone(room), cloned(list)
	rows := list[:3]
	a, b := put(t, rows), put(t, rows)
	batch.Long(rows)
	glue := batch.Glue(rows)
	spoil(a)
	spoil(glue)
	if !bytes.Equal(room, kept) || !same(list, keptList) {
		t.Fatal("rows that were handed in are changed, or share memory with an answer")
	}
	spoil(room)
	if want := written(rowsOf("ab", "", "and")); !bytes.Equal(b, want) {
		t.Fatalf("what was put changed: %x, want %x", b, want)
	}
}

func TestBytesHandedInStay(t *testing.T) {
	room := glued(written(rowsOf("a", "")), written(rowsOf("bc")), commit(0, 0), data('d'))
	kept := bytes.Clone(room)
	for k := range len(room) + 1 {
		l, n, e := batch.Scan(room[:k])
		wantScan(t, "the same without spare room", room[:k:k], l, n, e)
		if rows := batch.Cut(room[:k]); !bytes.Equal(bytes.Join(rows, nil), room[:k]) {
			t.Fatalf("Cut of %d bytes: %q", k, rows)
		}
		if !bytes.Equal(room, kept) {
			t.Fatalf("Scan or Cut of %d bytes changed them, or those behind", k)
		}
	}
}

func TestAnswersAreNew(t *testing.T) {
	rows := rowsOf("ab", "c")
	a, b := put(t, rows), put(t, rows)
	spoil(a)
	if !bytes.Equal(b, written(rowsOf("ab", "c"))) || !bytes.Equal(put(t, rows), b) {
		t.Fatal("two answers of Put share memory")
	}
	g, h := batch.Glue(rows), batch.Glue(rows)
	spoil(g)
	if string(h) != "abc" {
		t.Fatalf("two answers of Glue share memory: %q", h)
	}
	none := batch.Cut(nil)
	none[0] = []byte("x")
	if again := batch.Cut(nil); len(again) != 1 || len(again[0]) != 0 {
		t.Fatalf("two answers of Cut share memory: %q", again)
	}
}

// The chapter's examples.

func TestExamples(t *testing.T) {
	ab := rowsOf("ab")
	b := put(t, ab)
	if n, e := batch.Long(ab); len(b) != 22 || n != 22 || e != api.OK {
		t.Fatalf("Put: %d bytes, Long: %d, error %d", len(b), n, e)
	}
	wantScan(t, "these", b, [][][]byte{ab}, 22, api.OK)
	wantScan(t, "21 of these", b[:21], nil, 0, api.ErrTorn)
	wantScan(t, "these twice, and one byte more", glued(b, b, []byte{7}), [][][]byte{ab, ab}, 44, api.ErrTorn)
	wantScan(t, "an end alone", commit(0, 0), nil, 0, api.ErrBatch)
	if rows := batch.Cut(nil); len(rows) != 1 || len(rows[0]) != 0 {
		t.Fatalf("Cut of nothing: %v", rows)
	}
}
