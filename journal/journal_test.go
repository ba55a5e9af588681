package journal_test

import (
	"bytes"
	"fmt"
	"math"
	"math/rand/v2"
	"slices"
	"testing"

	"foreman/api"
	"foreman/batch"
	"foreman/disk"
	"foreman/head"
	"foreman/journal"
)

const lastSerial = math.MaxUint64

// chance is the same in each run.
func chance() *rand.Rand { return rand.New(rand.NewPCG(6, 6)) }

func of(serial, epoch uint64, live uint8) api.Head {
	return api.Head{Serial: serial, Epoch: epoch, Live: live}
}

// rows is texts as a batch's rows.
func rows(l ...string) [][]byte {
	var out [][]byte
	for _, s := range l {
		out = append(out, []byte(s))
	}
	return out
}

// shown is batches as a text, each row quoted.
func shown(l [][][]byte) string {
	s := ""
	for _, b := range l {
		s += fmt.Sprintf("%q;", b)
	}
	return s
}

// put is batches as written, one behind the other.
func put(t *testing.T, l ...[][]byte) []byte {
	t.Helper()
	var all []byte
	for _, x := range l {
		b, e := batch.Put(x)
		if e != api.OK {
			t.Fatalf("Put: error %d", e)
		}
		all = append(all, b...)
	}
	return all
}

func newDisk(t *testing.T, capacity int) *disk.Disk {
	t.Helper()
	d, e := disk.New(capacity)
	if e != api.OK {
		t.Fatalf("New(%d): error %d", capacity, e)
	}
	return d
}

// laid is a disk with these segments and that head, all safe; of a Serial 0 there is no head.
func laid(t *testing.T, h api.Head, zero, one []byte) *disk.Disk {
	t.Helper()
	d := newDisk(t, 5000)
	for seg, b := range [][]byte{zero, one} {
		if d.Append(seg, b) != api.OK || d.Sync(seg) != api.OK {
			t.Fatal("a segment could not be laid")
		}
	}
	if h.Serial > 0 {
		h.Serial--
		if _, e := head.Save(d, h); e != api.OK {
			t.Fatalf("Save of %v: error %d", h, e)
		}
	}
	return d
}

// kill makes a disk dead, with what is on it as it is.
func kill(t *testing.T, d *disk.Disk) *disk.Disk {
	t.Helper()
	d.Fuse(0, 0)
	d.SyncHead()
	if !d.Dead() {
		t.Fatal("the disk is alive")
	}
	return d
}

// noDisks is disks that New did not answer.
func noDisks(t *testing.T) []*disk.Disk {
	t.Helper()
	copied := *laid(t, of(1, 0, 0), nil, nil)
	return []*disk.Disk{nil, {}, &copied}
}

// noJournals is journals that Open did not answer.
func noJournals(t *testing.T) []*journal.Journal {
	t.Helper()
	j, _ := opened(t, laid(t, of(1, 0, 0), put(t, rows("a")), nil))
	copied := *j
	return []*journal.Journal{nil, {}, &copied}
}

func opened(t *testing.T, d *disk.Disk) (*journal.Journal, string) {
	t.Helper()
	j, l, e := journal.Open(d)
	if e != api.OK || j == nil {
		t.Fatalf("Open: error %d", e)
	}
	return j, shown(l)
}

func fresh(t *testing.T, capacity int) (*disk.Disk, *journal.Journal) {
	t.Helper()
	d := newDisk(t, capacity)
	wantErr(t, "Format", journal.Format(d), api.OK)
	j, _ := opened(t, d)
	return d, j
}

func wantErr(t *testing.T, what string, got, want api.Errno) {
	t.Helper()
	if got != want {
		t.Fatalf("%s: error %d, want %d", what, got, want)
	}
}

func wantHead(t *testing.T, what string, d *disk.Disk, want api.Head) {
	t.Helper()
	if h, e := head.Load(d); h != want || e != api.OK {
		t.Fatalf("%s: the disk's head is %v, error %d; want %v", what, h, e, want)
	}
}

func wantSegments(t *testing.T, what string, d *disk.Disk, zero, one []byte) {
	t.Helper()
	for seg, want := range [][]byte{zero, one} {
		if got := d.Read(seg); !bytes.Equal(got, want) {
			t.Fatalf("%s: segment %d is %v, want %v", what, seg, got, want)
		}
	}
}

// wantBurnt tells whether do, on a disk as make lays it, is so many calls of the disk: one less kills it.
func wantBurnt(t *testing.T, what string, calls int, lay func() (*disk.Disk, func() api.Errno)) {
	t.Helper()
	for n := range calls + 2 {
		d, do := lay()
		d.Fuse(n, 0)
		e := do()
		if n < calls {
			if e != api.ErrDead || !d.Dead() {
				t.Fatalf("%s, with a fuse of %d: error %d, want ErrDead", what, n, e)
			}
			continue
		}
		wantErr(t, what+", with a fuse that is long enough", e, api.OK)
		for range n - calls {
			wantErr(t, what+": a call behind it", d.SyncHead(), api.OK)
		}
		wantErr(t, what+": the call that kills", d.SyncHead(), api.ErrDead)
	}
}

// disksState is all that can be read of a disk.
func disksState(d *disk.Disk) string {
	return fmt.Sprint(d.Read(0), d.Read(1), d.Head(0), d.Head(1), d.Free(), d.Dead())
}

// P6.1

func TestFormatOfANewDisk(t *testing.T) {
	for _, capacity := range []int{0, 1, 100, api.MaxDisk} {
		d := newDisk(t, capacity)
		wantErr(t, "Format", journal.Format(d), api.OK)
		wantHead(t, "Format", d, of(1, 0, 0))
		wantSegments(t, "Format", d, nil, nil)
		if !bytes.Equal(d.Head(0), make([]byte, api.SlotSize)) {
			t.Errorf("Format wrote into slot 0: %v", d.Head(0))
		}
		d.Crash([4]int{})
		wantHead(t, "Format, and a crash", d, of(1, 0, 0))
	}
}

func TestFormatBehindAHead(t *testing.T) {
	for _, serial := range []uint64{1, 2, 3, 255, 256, 1 << 40, lastSerial - 2, lastSerial - 1} {
		for _, live := range []uint8{0, 1} {
			for _, epoch := range []uint64{0, 7, lastSerial} {
				d := laid(t, of(serial, epoch, live), put(t, rows("a")), []byte{1, 2, 3})
				wantErr(t, "Format", journal.Format(d), api.OK)
				wantHead(t, "Format", d, of(serial+1, 0, 0))
				wantSegments(t, "Format", d, nil, nil)
				d.Crash([4]int{})
				wantHead(t, "Format, and a crash", d, of(serial+1, 0, 0))
				wantSegments(t, "Format, and a crash", d, nil, nil)
			}
		}
	}
}

func TestFormatAgainAndAgain(t *testing.T) {
	d := newDisk(t, 100)
	for i := range 300 {
		wantErr(t, "Format", journal.Format(d), api.OK)
		wantHead(t, "Format", d, of(uint64(i+1), 0, 0))
	}
}

func TestFormatOfWhatIsNoHead(t *testing.T) {
	odd, _ := head.Bytes(of(5, 1, 1))
	even, _ := head.Bytes(of(6, 1, 1))
	d := newDisk(t, 100)
	d.Write(0, odd) // each in the other one's slot
	d.Write(1, even)
	d.Append(1, []byte{9})
	wantErr(t, "Format", journal.Format(d), api.OK)
	wantHead(t, "Format", d, of(1, 0, 0))
	wantSegments(t, "Format", d, nil, nil)
	if !bytes.Equal(d.Head(0), odd) {
		t.Error("Format wrote into slot 0")
	}
}

func TestFormatOfLooseBytes(t *testing.T) {
	d := laid(t, of(4, 2, 1), []byte{1}, []byte{2})
	d.Append(0, []byte{3, 4})
	d.Append(1, []byte{5, 6})
	wantErr(t, "Format", journal.Format(d), api.OK)
	wantSegments(t, "Format", d, nil, nil)
	if d.Free() != 5000 {
		t.Errorf("Free: %d", d.Free())
	}
}

// TestFormatLeavesWhatIsEmpty: an empty segment is not truncated, for that would be a call of the disk.
func TestFormatLeavesWhatIsEmpty(t *testing.T) {
	some := []byte{1, 2}
	cases := []struct {
		zero, one []byte
		calls     int
	}{{nil, nil, 2}, {some, nil, 3}, {nil, some, 3}, {some, some, 4}}
	for _, c := range cases {
		for _, h := range []api.Head{{}, of(1, 1, 0), of(2, 1, 1)} {
			wantBurnt(t, "Format", c.calls, func() (*disk.Disk, func() api.Errno) {
				d := laid(t, h, c.zero, c.one)
				return d, func() api.Errno { return journal.Format(d) }
			})
		}
	}
}

func TestFormatInOrder(t *testing.T) {
	zero, one := put(t, rows("zero")), put(t, rows("one"))
	for calls := range 4 {
		d := laid(t, of(8, 3, 1), zero, one)
		d.Fuse(calls, 0)
		wantErr(t, "Format", journal.Format(d), api.ErrDead)
		d.Crash([4]int{0, 0, 0, 0})
		wantHead(t, "a Format that was cut off", d, of(8, 3, 1))
		switch calls {
		case 0:
			wantSegments(t, "none truncated", d, zero, one)
		case 1:
			wantSegments(t, "segment 0 first", d, nil, one)
		default:
			wantSegments(t, "both ahead of the head", d, nil, nil)
		}
	}
}

func TestFormatOfNoDisk(t *testing.T) {
	for _, d := range noDisks(t) {
		wantErr(t, "Format of no disk", journal.Format(d), api.ErrNil)
	}
	d := kill(t, laid(t, of(3, 1, 1), put(t, rows("a")), put(t, rows("b"))))
	wantErr(t, "Format of a dead disk", journal.Format(d), api.ErrDead)
	d.Crash([4]int{})
	wantHead(t, "of a disk that was dead", d, of(3, 1, 1))
	wantSegments(t, "of a disk that was dead", d, put(t, rows("a")), put(t, rows("b")))
	wantErr(t, "Format of a dead disk without a head", journal.Format(kill(t, newDisk(t, 9))), api.ErrDead)
}

// TestNoSerialIsLeft: behind the last Serial there is none, which the save tells.
func TestNoSerialIsLeft(t *testing.T) {
	d := laid(t, of(lastSerial, 4, 0), put(t, rows("a")), []byte{1})
	if j, l, e := journal.Open(d); j != nil || len(l) != 0 || e != api.ErrHead {
		t.Fatalf("Open behind the last Serial: %v, %v, error %d", j, l, e)
	}
	wantHead(t, "Open behind the last Serial", d, of(lastSerial, 4, 0))
	wantErr(t, "Format behind the last Serial", journal.Format(d), api.ErrHead)
	wantHead(t, "Format behind the last Serial", d, of(lastSerial, 4, 0))
}

// P6.2

func TestOpenOfAFormattedDisk(t *testing.T) {
	d := newDisk(t, 100)
	wantErr(t, "Format", journal.Format(d), api.OK)
	j, l := opened(t, d)
	if l != "" || j.Head() != of(2, 1, 0) {
		t.Errorf("Open: %s, %v", l, j.Head())
	}
	wantHead(t, "Open", d, of(2, 1, 0))
	wantSegments(t, "Open", d, nil, nil)
}

func TestOpenOfBatches(t *testing.T) {
	long := string(bytes.Repeat([]byte("x"), 900))
	for _, live := range []uint8{0, 1} {
		for _, l := range [][][][]byte{nil, {rows("")}, {rows("a")}, {rows("a", "", "b"), rows("c")}, {rows(long), rows(long, "d"), rows("e")}} {
			segs := [2][]byte{}
			segs[live] = put(t, l...)
			d := laid(t, of(5, 8, live), segs[0], segs[1])
			j, got := opened(t, d)
			if got != shown(l) {
				t.Fatalf("Open: %s, want %s", got, shown(l))
			}
			if want := of(6, 9, live); j.Head() != want {
				t.Fatalf("Open: head %v, want %v", j.Head(), want)
			}
			wantHead(t, "Open", d, of(6, 9, live))
			wantSegments(t, "Open", d, segs[0], segs[1])
			if j.Size() != len(segs[live]) || j.Free() != 5000-len(segs[live]) {
				t.Fatalf("Size %d, Free %d", j.Size(), j.Free())
			}
			d.Crash([4]int{}) // the head is safe
			wantHead(t, "Open, and a crash", d, of(6, 9, live))
		}
	}
}

// TestOpenOfALiveSegmentThatIsCut: whatever stands behind the last whole batch goes.
func TestOpenOfALiveSegmentThatIsCut(t *testing.T) {
	two := [][][]byte{rows("a", "bc"), rows("")}
	whole := put(t, two...)
	next := put(t, rows("def", "gh"))
	turned := bytes.Clone(next)
	turned[3] ^= 1
	commit := next[len(next)-11:] // an end of two rows, of which there are none
	var tails [][]byte
	for n := range len(next) {
		tails = append(tails, next[:n])
	}
	tails = append(tails, turned, commit, append(bytes.Clone(commit), next...), append(bytes.Clone(turned), next...), make([]byte, 40), bytes.Repeat([]byte{255}, 9), []byte{0})
	for _, live := range []uint8{0, 1} {
		for _, tail := range tails {
			for _, other := range [][]byte{nil, {7}, put(t, rows("other"))} {
				segs := [2][]byte{}
				segs[live] = slices.Concat(whole, tail)
				segs[1-live] = other
				d := laid(t, of(2, 1, live), segs[0], segs[1])
				j, got := opened(t, d)
				if got != shown(two) || j.Head() != of(3, 2, live) {
					t.Fatalf("Open with %v behind: %s, %v", tail, got, j.Head())
				}
				segs[live], segs[1-live] = whole, nil
				wantSegments(t, "Open", d, segs[0], segs[1])
				if j.Free() != 5000-len(whole) || j.Size() != len(whole) {
					t.Fatalf("Free %d, Size %d", j.Free(), j.Size())
				}
				// What is appended now stands where it is read.
				wantErr(t, "Append", j.Append(rows("on")), api.OK)
				if _, again := opened(t, d); again != shown(two)+shown([][][]byte{rows("on")}) {
					t.Fatalf("Open again: %s", again)
				}
			}
		}
	}
}

func TestOpenOfNoWholeBatch(t *testing.T) {
	for _, live := range []uint8{0, 1} {
		b := put(t, rows("abc"))
		for n := range len(b) {
			segs := [2][]byte{}
			segs[live] = b[:n]
			d := laid(t, of(1, 0, live), segs[0], segs[1])
			j, got := opened(t, d)
			if got != "" || j.Size() != 0 || j.Free() != 5000 {
				t.Fatalf("Open of %d bytes of a batch: %s, Size %d", n, got, j.Size())
			}
		}
	}
}

// TestOpenDoesNoMore: only what is too much is truncated, and nothing is synced but the head.
func TestOpenDoesNoMore(t *testing.T) {
	whole := put(t, rows("a"))
	torn := append(bytes.Clone(whole), 1, 2)
	cases := []struct {
		live, other []byte
		calls       int
	}{{nil, nil, 2}, {whole, nil, 2}, {torn, nil, 3}, {[]byte{1}, nil, 3}, {nil, whole, 3}, {whole, whole, 3}, {whole, []byte{1}, 3}, {torn, torn, 4}}
	for _, c := range cases {
		for _, live := range []uint8{0, 1} {
			wantBurnt(t, "Open", c.calls, func() (*disk.Disk, func() api.Errno) {
				segs := [2][]byte{}
				segs[live], segs[1-live] = c.live, c.other
				d := laid(t, of(3, 1, live), segs[0], segs[1])
				return d, func() api.Errno {
					_, _, e := journal.Open(d)
					return e
				}
			})
		}
	}
}

func TestOpenInOrder(t *testing.T) {
	whole := put(t, rows("a"))
	torn := append(bytes.Clone(whole), 1, 2)
	for _, live := range []uint8{0, 1} {
		for calls := range 4 {
			segs := [2][]byte{}
			segs[live], segs[1-live] = torn, []byte{3}
			d := laid(t, of(9, 5, live), segs[0], segs[1])
			d.Fuse(calls, 0)
			if j, l, e := journal.Open(d); j != nil || len(l) != 0 || e != api.ErrDead {
				t.Fatalf("Open, cut off: %v, %v, error %d", j, l, e)
			}
			d.Crash([4]int{})
			wantHead(t, "Open, cut off", d, of(9, 5, live))
			if calls > 0 {
				segs[live] = whole
			}
			if calls > 1 {
				segs[1-live] = nil
			}
			wantSegments(t, "Open, cut off", d, segs[0], segs[1])
		}
	}
}

func TestOpenOfWhatIsLoose(t *testing.T) {
	a, b := put(t, rows("a")), put(t, rows("b"))
	d := laid(t, of(2, 1, 0), a, nil)
	d.Append(0, slices.Concat(b, []byte{1, 2}))
	if _, got := opened(t, d); got != shown([][][]byte{rows("a"), rows("b")}) {
		t.Fatalf("Open: %s", got)
	}
	wantSegments(t, "Open", d, slices.Concat(a, b), nil)
	d.Crash([4]int{}) // Open syncs no segment
	wantSegments(t, "Open, and a crash", d, a, nil)
}

func TestOpenAgainAndAgain(t *testing.T) {
	d := newDisk(t, 100)
	wantErr(t, "Format", journal.Format(d), api.OK)
	want := ""
	for i := range 50 {
		j, got := opened(t, d)
		if got != want || j.Head() != of(uint64(i+2), uint64(i+1), 0) {
			t.Fatalf("Open, %d: %s, %v; want %s", i, got, j.Head(), want)
		}
		if i < 3 {
			wantErr(t, "Append", j.Append(rows("ab")), api.OK)
			want += shown([][][]byte{rows("ab")})
		}
		if i%4 == 0 {
			d.Crash([4]int{})
		}
	}
}

func TestOpenOfNoHead(t *testing.T) {
	d := newDisk(t, 100)
	d.Append(0, put(t, rows("a")))
	d.Append(1, []byte{1})
	was := disksState(d)
	d.Fuse(1, 0)
	if j, l, e := journal.Open(d); j != nil || len(l) != 0 || e != api.ErrHead {
		t.Errorf("Open without a head: %v, %v, error %d", j, l, e)
	}
	if got := disksState(d); got != was {
		t.Errorf("ErrHead changed the disk: %s, was %s", got, was)
	}
	wantErr(t, "a call behind ErrHead", d.SyncHead(), api.OK)
}

func TestOpenOfNoDisk(t *testing.T) {
	for i, d := range noDisks(t) {
		if j, l, e := journal.Open(d); j != nil || len(l) != 0 || e != api.ErrNil {
			t.Errorf("Open of no disk, %d: %v, %v, error %d", i, j, l, e)
		}
	}
	for _, h := range []api.Head{{}, of(2, 1, 1)} {
		d := kill(t, laid(t, h, put(t, rows("a")), []byte{1}))
		if j, l, e := journal.Open(d); j != nil || len(l) != 0 || e != api.ErrDead {
			t.Errorf("Open of a dead disk: %v, %v, error %d", j, l, e)
		}
	}
}

func TestOpenAnswersAreNew(t *testing.T) {
	d := laid(t, of(2, 1, 0), put(t, rows("ab", "cd"), rows("ef")), nil)
	was := d.Read(0)
	_, l, _ := journal.Open(d)
	_, again, _ := journal.Open(d)
	want := shown(again)
	for i := range l {
		for k := range l[i] {
			row := l[i][k]
			clear(row[:cap(row)])
		}
		for k := range l[i][:cap(l[i])] {
			l[i][:cap(l[i])][k] = nil
		}
	}
	wantSegments(t, "an answer that is changed", d, was, nil)
	if shown(again) != want {
		t.Errorf("one answer changed with the other: %s", shown(again))
	}

	_, l, _ = journal.Open(d)
	_ = append(l[0], []byte("more"))
	_ = append(l[0][0], "more"...)
	if shown(l) != want {
		t.Errorf("one list grew into another: %s", shown(l))
	}
}

// P6.3

func TestAppend(t *testing.T) {
	for _, live := range []uint8{0, 1} {
		d := laid(t, of(1, 0, live), nil, nil)
		j, _ := opened(t, d)
		var l [][][]byte
		segs := [2][]byte{}
		for i := range 12 {
			x := slices.Repeat(rows("row", "", "another"), i+1)[:2*i+1]
			wantErr(t, "Append", j.Append(x), api.OK)
			l = append(l, x)
			segs[live] = put(t, l...)
			wantSegments(t, "Append", d, segs[0], segs[1])
			wantHead(t, "Append", d, of(2, 1, live))
			d.Crash([4]int{}) // it is synced
			wantSegments(t, "Append, and a crash", d, segs[0], segs[1])
		}
		if _, got := opened(t, d); got != shown(l) {
			t.Errorf("Open: %s, want %s", got, shown(l))
		}
	}
}

func TestAppendIsTwoCalls(t *testing.T) {
	for _, live := range []uint8{0, 1} {
		wantBurnt(t, "Append", 2, func() (*disk.Disk, func() api.Errno) {
			d := laid(t, of(1, 0, live), nil, nil)
			j, _ := opened(t, d)
			return d, func() api.Errno { return j.Append(rows("a")) }
		})
	}
}

func TestSwitch(t *testing.T) {
	d := newDisk(t, 200)
	wantErr(t, "Format", journal.Format(d), api.OK)
	j, _ := opened(t, d)
	for i := range 30 {
		live := j.Head().Live
		if i%3 > 0 { // else the live one may be of the Switch alone
			wantErr(t, "Append", j.Append(rows("more")), api.OK)
		}
		x := rows("row", fmt.Sprint(i))
		wantErr(t, "Switch", j.Switch(x), api.OK)
		want := of(uint64(i+3), 1, 1-live)
		if j.Head() != want {
			t.Fatalf("Switch: head %v, want %v", j.Head(), want)
		}
		segs := [2][]byte{}
		segs[1-live] = put(t, x)
		for range 2 {
			wantHead(t, "Switch", d, want)
			wantSegments(t, "Switch", d, segs[0], segs[1])
			if n := len(segs[1-live]); j.Size() != n || j.Free() != 200-n {
				t.Fatalf("Size %d, Free %d", j.Size(), j.Free())
			}
			d.Crash([4]int{}) // all of it is synced
		}
	}
}

func TestSwitchCalls(t *testing.T) {
	for _, live := range []uint8{0, 1} {
		for _, empty := range []bool{false, true} {
			calls := 5
			if empty { // what has nothing is not truncated
				calls = 4
			}
			wantBurnt(t, "Switch", calls, func() (*disk.Disk, func() api.Errno) {
				d := laid(t, of(1, 0, live), nil, nil)
				j, _ := opened(t, d)
				if !empty {
					wantErr(t, "Append", j.Append(rows("a")), api.OK)
				}
				return d, func() api.Errno { return j.Switch(rows("b")) }
			})
		}
	}
}

// TestSwitchInOrder: till the head is saved it is the one that was; as soon as it is saved it is the journal's.
func TestSwitchInOrder(t *testing.T) {
	old, next := put(t, rows("old")), put(t, rows("next"))
	for _, live := range []uint8{0, 1} {
		for calls := range 5 {
			segs := [2][]byte{}
			segs[live] = old
			d := laid(t, of(1, 0, live), segs[0], segs[1])
			j, _ := opened(t, d)
			d.Fuse(calls, 4)
			wantErr(t, "Switch, cut off", j.Switch(rows("next")), api.ErrDead)
			want := of(2, 1, live)
			if calls == 4 {
				want = of(3, 1, 1-live)
			}
			if j.Head() != want {
				t.Fatalf("Switch, cut off at call %d: head %v, want %v", calls, j.Head(), want)
			}
			keep := [4]int{}
			keep[1-live] = 3
			d.Crash(keep)
			wantHead(t, "Switch, cut off", d, want)
			switch calls {
			case 0, 1:
				segs[1-live] = next[:3]
			default:
				segs[1-live] = next
			}
			wantSegments(t, "Switch, cut off", d, segs[0], segs[1])
		}
	}
}

func wrongRows() []struct {
	rows [][]byte
	err  api.Errno
} {
	long := make([]byte, api.MaxRecord+1)
	many := make([][]byte, api.MaxRows+1)
	manyLong := slices.Clone(many)
	manyLong[0] = long
	return []struct {
		rows [][]byte
		err  api.Errno
	}{
		{nil, api.ErrBatch}, {[][]byte{}, api.ErrBatch}, {many, api.ErrBatch}, {manyLong, api.ErrBatch},
		{[][]byte{long}, api.ErrLong}, {[][]byte{{1}, long, {2}}, api.ErrLong}, {append(many[:api.MaxRows-1:api.MaxRows-1], long), api.ErrLong},
	}
}

func TestWrongRows(t *testing.T) {
	d, j := fresh(t, 100)
	wantErr(t, "Append", j.Append(rows("a")), api.OK)
	was, h := disksState(d), j.Head()
	d.Fuse(1, 0)
	dead, onDead := fresh(t, 0)
	kill(t, dead)
	for i, w := range wrongRows() {
		wantErr(t, fmt.Sprintf("Append of wrong rows, %d", i), j.Append(w.rows), w.err)
		wantErr(t, fmt.Sprintf("Switch to wrong rows, %d", i), j.Switch(w.rows), w.err)
		wantErr(t, fmt.Sprintf("Append of wrong rows, %d, on a dead disk", i), onDead.Append(w.rows), w.err)
		wantErr(t, fmt.Sprintf("Switch to wrong rows, %d, on a dead disk", i), onDead.Switch(w.rows), w.err)
	}
	if got := disksState(d); got != was || j.Head() != h {
		t.Errorf("wrong rows changed the disk: %s, was %s", got, was)
	}
	wantErr(t, "a call behind wrong rows", d.SyncHead(), api.OK)
}

func TestGreatRows(t *testing.T) {
	longest := make([]byte, api.MaxRecord)
	most := make([][]byte, api.MaxRows)
	d, j := fresh(t, api.MaxDisk)
	wantErr(t, "Append of the longest row", j.Append([][]byte{longest}), api.OK)
	wantErr(t, "Append of the most rows", j.Append(most), api.OK)
	if _, got := opened(t, d); got != shown([][][]byte{{longest}, most}) {
		t.Error("Open: other batches")
	}
	j, _ = opened(t, d)
	wantErr(t, "Switch to the most rows", j.Switch(most), api.OK)
	wantErr(t, "Switch to the longest row", j.Switch([][]byte{longest}), api.OK)
	if _, got := opened(t, d); got != shown([][][]byte{{longest}}) {
		t.Error("Open: other batches")
	}
	for i := range most {
		most[i] = longest
	}
	// A right batch may be more than any disk has.
	wantErr(t, "Append of more than a disk", j.Append(most), api.ErrFull)
	wantErr(t, "Switch to more than a disk", j.Switch(most), api.ErrFull)
}

// TestFull: a batch that just fits is taken; one byte more is not, and changes nothing.
func TestFull(t *testing.T) {
	for _, do := range []func(*journal.Journal, [][]byte) api.Errno{(*journal.Journal).Append, (*journal.Journal).Switch} {
		for _, live := range []uint8{0, 1} {
			for n := range 40 {
				x := [][]byte{make([]byte, n)}
				need := 20 + n
				for _, first := range [][]byte{nil, put(t, rows("first"))} {
					d := newDisk(t, len(first)+need)
					d.Append(int(live), first)
					d.Sync(int(live))
					if _, e := head.Save(d, of(0, 0, live)); e != api.OK {
						t.Fatal(e)
					}
					j, _ := opened(t, d)
					was, h := disksState(d), j.Head()
					d.Fuse(1, 9)
					wantErr(t, "what does not fit", do(j, [][]byte{make([]byte, n+1)}), api.ErrFull)
					wantErr(t, "what does not fit", do(j, append(x, nil)), api.ErrFull)
					if got := disksState(d); got != was || j.Head() != h {
						t.Fatalf("ErrFull changed the disk: %s, was %s", got, was)
					}
					wantErr(t, "a call behind ErrFull", d.SyncHead(), api.OK)
					d.Fuse(-1, 0)
					wantErr(t, "what just fits", do(j, x), api.OK)
				}
			}
		}
	}
}

func TestNoJournal(t *testing.T) {
	for i, j := range noJournals(t) {
		for _, x := range [][][]byte{rows("a"), nil, {make([]byte, api.MaxRecord+1)}} {
			wantErr(t, fmt.Sprintf("Append to no journal, %d", i), j.Append(x), api.ErrNil)
			wantErr(t, fmt.Sprintf("Switch of no journal, %d", i), j.Switch(x), api.ErrNil)
		}
		if j.Free() != 0 || j.Size() != 0 || j.Head() != (api.Head{}) {
			t.Errorf("no journal, %d: Free %d, Size %d, Head %v", i, j.Free(), j.Size(), j.Head())
		}
	}
}

func TestDeadDisk(t *testing.T) {
	d, j := fresh(t, 50)
	wantErr(t, "Append", j.Append(rows("a")), api.OK)
	h := j.Head()
	kill(t, d)
	for _, x := range [][][]byte{rows("b"), {make([]byte, 1000)}} { // dead is ahead of full
		wantErr(t, "Append on a dead disk", j.Append(x), api.ErrDead)
		wantErr(t, "Switch on a dead disk", j.Switch(x), api.ErrDead)
	}
	if j.Free() != 0 || j.Size() != 0 || j.Head() != h {
		t.Errorf("on a dead disk: Free %d, Size %d, Head %v", j.Free(), j.Size(), j.Head())
	}
	d.Crash([4]int{})
	if _, got := opened(t, d); got != shown([][][]byte{rows("a")}) {
		t.Errorf("Open: %s", got)
	}
}

// TestRowsStay: what is handed in is neither changed nor kept, nor its spare room.
func TestRowsStay(t *testing.T) {
	for _, do := range []func(*journal.Journal, [][]byte) api.Errno{(*journal.Journal).Append, (*journal.Journal).Switch} {
		d, j := fresh(t, 200)
		room := []byte("abcdefgh")
		x := [][]byte{room[0:2], room[2:5], []byte("spare"), []byte("spare")}
		was := shown([][][]byte{x})
		wantErr(t, "a call", do(j, x[:2]), api.OK)
		if shown([][][]byte{x}) != was || string(room) != "abcdefgh" {
			t.Errorf("rows changed: %q", x)
		}
		clear(room)
		clear(x)
		if _, got := opened(t, d); got != shown([][][]byte{rows("ab", "cde")}) {
			t.Errorf("rows are kept: %s", got)
		}
	}
}

// P6.4

func TestFreeSizeHead(t *testing.T) {
	d, j := fresh(t, 300)
	want := func(size int, h api.Head) {
		t.Helper()
		if j.Size() != size || j.Free() != 300-size || j.Head() != h {
			t.Fatalf("Size %d, Free %d, Head %v; want %d, %d, %v", j.Size(), j.Free(), j.Head(), size, 300-size, h)
		}
	}
	d.Fuse(9, 0)
	ask := func(size int, h api.Head) {
		t.Helper()
		for range 5 { // asking is no call that changes something
			want(size, h)
		}
	}
	ask(0, of(2, 1, 0))
	wantErr(t, "Append", j.Append(rows("abc")), api.OK)
	ask(23, of(2, 1, 0))
	wantErr(t, "Append", j.Append(rows("", "")), api.OK)
	ask(52, of(2, 1, 0))
	wantErr(t, "Switch", j.Switch(rows("")), api.OK)
	ask(20, of(3, 1, 1))
	wantErr(t, "the call behind 2, 2 and 5", j.Append(rows("a")), api.ErrDead)
}

func TestFreeOfNewJournals(t *testing.T) {
	for _, capacity := range []int{0, 1, 50, api.MaxDisk} {
		_, j := fresh(t, capacity)
		if j.Free() != capacity || j.Size() != 0 {
			t.Errorf("on a disk of %d bytes: Free %d, Size %d", capacity, j.Free(), j.Size())
		}
	}
}

// TestFreeCountsBoth: what is free is the disk's, also of bytes that the journal did not put there.
func TestFreeCountsBoth(t *testing.T) {
	d, j := fresh(t, 100)
	wantErr(t, "Append", j.Append(rows("a")), api.OK)
	d.Append(1, []byte{1, 2, 3})
	if j.Size() != 21 || j.Free() != 76 {
		t.Errorf("Size %d, Free %d", j.Size(), j.Free())
	}
}

// P6.5

// cut is where a call is cut off: at which call of the disk, how many bytes of an Append are there, and what a crash keeps.
type cut struct {
	calls, part int
	keep        [4]int
}

// cuts is all of these, for so many calls and bytes: of each segment and of each slot every number is kept.
func cuts(calls, long int) []cut {
	var l []cut
	for at := range calls {
		for part := range long + 2 {
			for kept := range part + 2 {
				l = append(l, cut{at, part, [4]int{kept, kept, 0, 0}})
			}
		}
		for kept := range long + 2 {
			l = append(l, cut{at, long, [4]int{kept, kept, api.SlotSize, api.SlotSize}})
		}
		for kept := range api.SlotSize + 2 {
			l = append(l, cut{at, long, [4]int{0, 0, kept, kept}}, cut{at, 0, [4]int{long, long, kept, kept}}, cut{at, 3, [4]int{2, 1, 32 - kept, kept}})
		}
	}
	return l
}

// journalOf is a journal with two batches, its live segment that one.
func journalOf(t *testing.T, live uint8) (*disk.Disk, *journal.Journal, string) {
	t.Helper()
	l := [][][]byte{rows("a", "b"), rows("c")}
	segs := [2][]byte{}
	segs[live] = put(t, l...)
	d := laid(t, of(uint64(4+live), 6, live), segs[0], segs[1])
	j, _ := opened(t, d)
	return d, j, shown(l)
}

// wantReopened opens twice: the batches are one of these, and the same again; the epoch goes up by each.
func wantReopened(t *testing.T, what string, d *disk.Disk, epoch uint64, may ...string) string {
	t.Helper()
	j, got := opened(t, d)
	if !slices.Contains(may, got) || j.Head().Epoch != epoch {
		t.Fatalf("%s: %s, epoch %d; want one of %q, %d", what, got, j.Head().Epoch, may, epoch)
	}
	k, again := opened(t, d)
	if again != got || k.Head().Epoch != epoch+1 || k.Head().Live != j.Head().Live {
		t.Fatalf("%s: opened again %s, %v; was %s, %v", what, again, k.Head(), got, j.Head())
	}
	return got
}

func TestAppendCutOff(t *testing.T) {
	for _, live := range []uint8{0, 1} {
		for _, c := range cuts(2, 23) {
			d, j, was := journalOf(t, live)
			d.Fuse(c.calls, c.part)
			wantErr(t, "Append, cut off", j.Append(rows("new")), api.ErrDead)
			d.Crash(c.keep)
			whole := c.keep[live] >= 23 && (c.calls == 1 || c.part >= 23)
			want := was
			if whole {
				want += shown([][][]byte{rows("new")})
			}
			wantReopened(t, fmt.Sprintf("Append, cut off at %v", c), d, 8, want)
		}
	}
}

func TestSwitchCutOff(t *testing.T) {
	next := shown([][][]byte{rows("new")})
	for _, live := range []uint8{0, 1} {
		for _, c := range cuts(5, 23) {
			d, j, was := journalOf(t, live)
			d.Fuse(c.calls, c.part)
			wantErr(t, "Switch, cut off", j.Switch(rows("new")), api.ErrDead)
			d.Crash(c.keep)
			slot := j.Head().Serial % 2 // of the head that is saved, if it is; else of the one that was
			whole := c.calls == 4 || c.calls == 3 && c.keep[3-slot] >= api.SlotSize
			want := was
			if whole {
				want = next
			}
			what := fmt.Sprintf("Switch, cut off at %v", c)
			if c.calls == 3 && !whole { // a head's bytes may be alike behind those that are kept
				wantReopened(t, what, d, 8, was, next)
			} else {
				wantReopened(t, what, d, 8, want)
			}
		}
	}
}

func TestOpenCutOff(t *testing.T) {
	whole := [][][]byte{rows("a", "b"), rows("c")}
	for _, live := range []uint8{0, 1} {
		for _, c := range cuts(4, 4) {
			segs := [2][]byte{}
			segs[live], segs[1-live] = append(put(t, whole...), 1, 2, 3), put(t, rows("x"))
			d := laid(t, of(4, 6, live), segs[0], segs[1])
			d.Fuse(c.calls, c.part)
			if j, l, e := journal.Open(d); j != nil || len(l) != 0 || e != api.ErrDead {
				t.Fatalf("Open, cut off: %v, %v, error %d", j, l, e)
			}
			d.Crash(c.keep)
			h, _ := head.Load(d)
			if h.Epoch != 6 && (h.Epoch != 7 || c.calls < 3) {
				t.Fatalf("Open, cut off at %v: %v", c, h)
			}
			wantReopened(t, fmt.Sprintf("Open, cut off at %v", c), d, h.Epoch+1, shown(whole))
		}
	}
}

func TestFormatCutOff(t *testing.T) {
	for _, live := range []uint8{0, 1} {
		for _, c := range cuts(4, 4) {
			segs := [2][]byte{put(t, rows("zero")), put(t, rows("one"))}
			was := shown([][][]byte{rows([]string{"zero", "one"}[live])})
			d := laid(t, of(4, 6, live), segs[0], segs[1])
			d.Fuse(c.calls, c.part)
			wantErr(t, "Format, cut off", journal.Format(d), api.ErrDead)
			d.Crash(c.keep)
			h, _ := head.Load(d)
			if h != of(4, 6, live) && (h != of(5, 0, 0) || c.calls < 3) {
				t.Fatalf("Format, cut off at %v: %v", c, h)
			}
			want := ""
			if c.calls <= int(live) {
				want = was
			}
			wantReopened(t, fmt.Sprintf("Format, cut off at %v", c), d, h.Epoch+1, want)
		}
	}
}

func TestFirstFormatCutOff(t *testing.T) {
	for _, c := range cuts(2, 4) {
		d := newDisk(t, 50)
		d.Fuse(c.calls, c.part)
		wantErr(t, "Format, cut off", journal.Format(d), api.ErrDead)
		d.Crash(c.keep)
		_, l, e := journal.Open(d)
		if len(l) != 0 || e != api.OK && e != api.ErrHead || c.calls == 0 && e != api.ErrHead {
			t.Fatalf("Format, cut off at %v: %s, error %d", c, shown(l), e)
		}
		wantErr(t, "Format once more", journal.Format(d), api.OK)
		opened(t, d)
	}
}

// run is a journal, and what it was told to be.
type run struct {
	d     *disk.Disk
	j     *journal.Journal
	told  [][][]byte
	epoch uint64
}

// drawnRows is rows of some bytes, at times more than the disk has.
func drawnRows(r *rand.Rand) [][]byte {
	var l [][]byte
	for range 1 + r.IntN(3) {
		l = append(l, bytes.Repeat([]byte{byte(r.IntN(256))}, r.IntN(60)))
	}
	return l
}

// act appends or switches, and tells what the journal may be then.
func (x *run) act(t *testing.T, r *rand.Rand) [][][]byte {
	t.Helper()
	rows := drawnRows(r)
	need, _ := batch.Long(rows)
	fits := need <= x.d.Free()
	var next [][][]byte
	var e api.Errno
	if r.IntN(3) == 0 {
		next = [][][]byte{rows}
		e = x.j.Switch(rows)
	} else {
		next = append(slices.Clone(x.told), rows)
		e = x.j.Append(rows)
	}
	switch {
	case !fits:
		wantErr(t, "what does not fit", e, api.ErrFull)
		return x.told
	case x.d.Dead():
		wantErr(t, "what was cut off", e, api.ErrDead)
		return next
	}
	wantErr(t, "what is done", e, api.OK)
	x.told = next
	return next
}

// reopen crashes at times within the opening, too.
func (x *run) reopen(t *testing.T, r *rand.Rand, may [][][]byte) {
	t.Helper()
	drawn := func() [4]int {
		return [4]int{r.IntN(90) - 5, r.IntN(90) - 5, r.IntN(40) - 4, r.IntN(40) - 4}
	}
	x.d.Crash(drawn())
	for r.IntN(2) == 0 {
		x.d.Fuse(r.IntN(5), 0)
		if _, _, e := journal.Open(x.d); e == api.OK {
			x.epoch++
		}
		x.d.Crash(drawn())
	}
	j, l, e := journal.Open(x.d)
	wantErr(t, "Open", e, api.OK)
	if got := shown(l); got != shown(x.told) && got != shown(may) {
		t.Fatalf("Open: %s; want %s or %s", got, shown(x.told), shown(may))
	}
	if j.Head().Epoch <= x.epoch {
		t.Fatalf("Open: epoch %d, was %d", j.Head().Epoch, x.epoch)
	}
	x.j, x.told, x.epoch = j, l, j.Head().Epoch
}

// TestManyCrashes appends, switches, crashes and opens by turns that are drawn.
func TestManyCrashes(t *testing.T) {
	r := chance()
	for range 300 {
		d, j := fresh(t, 100+r.IntN(300))
		x := &run{d: d, j: j, epoch: 1}
		for range 60 {
			if r.IntN(4) == 0 {
				d.Fuse(r.IntN(6), r.IntN(90))
			}
			may := x.act(t, r)
			if d.Dead() || r.IntN(8) == 0 {
				x.reopen(t, r, may)
			}
			if x.j.Size() != len(put(t, x.told...)) {
				t.Fatalf("Size %d of %s", x.j.Size(), shown(x.told))
			}
		}
	}
}

// The chapter's examples

func TestExamples(t *testing.T) {
	d := newDisk(t, 100)
	if _, _, e := journal.Open(d); e != api.ErrHead {
		t.Errorf("Open of a disk that is not formatted: error %d", e)
	}
	wantErr(t, "Format", journal.Format(d), api.OK)
	j, _ := opened(t, d)
	wantErr(t, "Append of a row", j.Append(rows("ab")), api.OK)
	if j.Size() != 22 || j.Free() != 78 {
		t.Errorf("Size %d, Free %d", j.Size(), j.Free())
	}
	wantErr(t, "Append of 60 bytes", j.Append([][]byte{make([]byte, 60)}), api.ErrFull)
	wantErr(t, "Switch", j.Switch(rows("c")), api.OK)
	if j.Size() != 21 || j.Free() != 79 {
		t.Errorf("Size %d, Free %d", j.Size(), j.Free())
	}
	k, got := opened(t, d)
	if got != shown([][][]byte{rows("c")}) || k.Head().Epoch != 2 {
		t.Errorf("opened again: %s, %v", got, k.Head())
	}
}
