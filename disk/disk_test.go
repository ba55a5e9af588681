package disk_test

import (
	"bytes"
	"math"
	"testing"

	"foreman/api"
	"foreman/disk"
)

var (
	keepNone = [4]int{0, 0, 0, 0}
	keepAll  = [4]int{math.MaxInt, math.MaxInt, math.MaxInt, math.MaxInt}
)

func newDisk(t *testing.T, capacity int) *disk.Disk {
	t.Helper()
	d, e := disk.New(capacity)
	if d == nil || e != api.OK {
		t.Fatalf("New(%d): %v, %d", capacity, d, e)
	}
	return d
}

func wantErr(t *testing.T, what string, got, want api.Errno) {
	t.Helper()
	if got != want {
		t.Fatalf("%s: error %d, want %d", what, got, want)
	}
}

func wantSeg(t *testing.T, d *disk.Disk, seg int, want ...byte) {
	t.Helper()
	if got := d.Read(seg); !bytes.Equal(got, want) {
		t.Fatalf("Read(%d): %v, want %v", seg, got, want)
	}
}

func wantHead(t *testing.T, d *disk.Disk, slot int, want []byte) {
	t.Helper()
	if got := d.Head(slot); !bytes.Equal(got, want) {
		t.Fatalf("Head(%d): %v, want %v", slot, got, want)
	}
}

func wantFree(t *testing.T, d *disk.Disk, want int) {
	t.Helper()
	if got := d.Free(); got != want {
		t.Fatalf("Free: %d, want %d", got, want)
	}
}

func put(t *testing.T, d *disk.Disk, seg int, b ...byte) {
	t.Helper()
	wantErr(t, "Append", d.Append(seg, b), api.OK)
}

func write(t *testing.T, d *disk.Disk, slot int, b []byte) {
	t.Helper()
	wantErr(t, "Write", d.Write(slot, b), api.OK)
}

// full is a slot's bytes, no two of them the same.
func full(from byte) []byte {
	b := make([]byte, api.SlotSize)
	for i := range b {
		b[i] = from + byte(i)
	}
	return b
}

func blank() []byte { return make([]byte, api.SlotSize) }

// P1.1

func TestNewTakesCapacities(t *testing.T) {
	for _, c := range []int{math.MinInt, -2, -1, api.MaxDisk + 1, api.MaxDisk + 2, math.MaxInt} {
		if d, e := disk.New(c); d != nil || e != api.ErrArg {
			t.Errorf("New(%d): %v, %d, want nil, ErrArg", c, d, e)
		}
	}
	for _, c := range []int{0, 1, 2, 100, api.MaxDisk - 1, api.MaxDisk} {
		wantFree(t, newDisk(t, c), c)
	}
}

func TestNewDiskHasNothing(t *testing.T) {
	d := newDisk(t, 10)
	wantSeg(t, d, 0)
	wantSeg(t, d, 1)
	wantHead(t, d, 0, blank())
	wantHead(t, d, 1, blank())
	if d.Dead() {
		t.Fatal("a new disk is dead")
	}
	for range 1000 {
		wantErr(t, "Sync of a disk without a fuse", d.Sync(0), api.OK)
	}
	d.Crash(keepNone)
	wantHead(t, d, 0, blank())
	wantHead(t, d, 1, blank())
}

func TestNewDisksAreApart(t *testing.T) {
	a, b := newDisk(t, 10), newDisk(t, 10)
	put(t, a, 0, 1)
	write(t, a, 0, full(1))
	a.Fuse(0, 0)
	wantErr(t, "Sync of the fused disk", a.Sync(0), api.ErrDead)
	wantSeg(t, b, 0)
	wantHead(t, b, 0, blank())
	wantFree(t, b, 10)
	wantErr(t, "Sync of the other disk", b.Sync(0), api.OK)
}

func TestReadsTellSafeAndLoose(t *testing.T) {
	d := newDisk(t, 10)
	put(t, d, 0, 1, 2)
	wantErr(t, "Sync", d.Sync(0), api.OK)
	put(t, d, 0, 3)
	put(t, d, 1, 4, 5, 6)
	wantSeg(t, d, 0, 1, 2, 3)
	wantSeg(t, d, 1, 4, 5, 6)
	wantFree(t, d, 4)
	write(t, d, 0, full(1))
	wantErr(t, "SyncHead", d.SyncHead(), api.OK)
	write(t, d, 1, full(7))
	wantHead(t, d, 0, full(1))
	wantHead(t, d, 1, full(7))
	wantFree(t, d, 4)
}

func TestReadsOfNoSegmentOrSlot(t *testing.T) {
	d := newDisk(t, 10)
	put(t, d, 0, 1)
	put(t, d, 1, 2)
	for _, i := range []int{math.MinInt, -1, 2, 3, math.MaxInt} {
		if b := d.Read(i); len(b) != 0 {
			t.Errorf("Read(%d): %v, want nothing", i, b)
		}
		if b := d.Head(i); len(b) != 0 {
			t.Errorf("Head(%d): %v, want nothing", i, b)
		}
	}
}

func TestDeadDiskTellsNothing(t *testing.T) {
	d := newDisk(t, 10)
	put(t, d, 0, 1)
	put(t, d, 1, 2)
	write(t, d, 0, full(1))
	d.Fuse(0, 0)
	if d.Dead() {
		t.Fatal("a fuse alone kills")
	}
	wantErr(t, "the killing call", d.SyncHead(), api.ErrDead)
	if !d.Dead() {
		t.Fatal("it is not dead")
	}
	for i := range 2 {
		if b := d.Read(i); len(b) != 0 {
			t.Errorf("Read(%d): %v, want nothing", i, b)
		}
		if b := d.Head(i); len(b) != 0 {
			t.Errorf("Head(%d): %v, want nothing", i, b)
		}
	}
	wantFree(t, d, 0)
}

// P1.2

func TestAppendRefuses(t *testing.T) {
	d := newDisk(t, 5)
	put(t, d, 0, 1, 2)
	put(t, d, 1, 3)
	for _, seg := range []int{math.MinInt, -1, 2, math.MaxInt} {
		wantErr(t, "Append to no segment", d.Append(seg, []byte{1}), api.ErrArg)
		wantErr(t, "Append of nothing to no segment", d.Append(seg, nil), api.ErrArg)
		wantErr(t, "Append to no segment of too much", d.Append(seg, make([]byte, 9)), api.ErrArg)
	}
	for seg := range 2 {
		wantErr(t, "Append of one too many", d.Append(seg, make([]byte, 3)), api.ErrFull)
	}
	wantSeg(t, d, 0, 1, 2)
	wantSeg(t, d, 1, 3)
	wantFree(t, d, 2)
}

func TestAppendFillsTheDisk(t *testing.T) {
	d := newDisk(t, 3)
	put(t, d, 0, 1)
	put(t, d, 1, 2, 3)
	wantFree(t, d, 0)
	for seg := range 2 {
		wantErr(t, "Append of nothing to a full disk", d.Append(seg, nil), api.OK)
		wantErr(t, "Append to a full disk", d.Append(seg, []byte{9}), api.ErrFull)
	}
	wantSeg(t, d, 0, 1)
	wantSeg(t, d, 1, 2, 3)

	none := newDisk(t, 0)
	wantErr(t, "Append of nothing to no room", none.Append(0, []byte{}), api.OK)
	wantErr(t, "Append to no room", none.Append(0, []byte{1}), api.ErrFull)

	big := newDisk(t, api.MaxDisk)
	wantErr(t, "Append of one more than MaxDisk", big.Append(0, make([]byte, api.MaxDisk+1)), api.ErrFull)
	wantErr(t, "Append of MaxDisk", big.Append(1, make([]byte, api.MaxDisk)), api.OK)
	wantFree(t, big, 0)
}

func TestAppendIsLooseTillSync(t *testing.T) {
	d := newDisk(t, 20)
	put(t, d, 0, 1)
	put(t, d, 1, 2)
	wantErr(t, "Sync", d.Sync(1), api.OK)
	put(t, d, 1, 3)
	d.Crash(keepNone)
	wantSeg(t, d, 0)
	wantSeg(t, d, 1, 2)
	put(t, d, 0, 4, 5)
	put(t, d, 0, 6)
	wantErr(t, "Sync", d.Sync(0), api.OK)
	d.Crash(keepNone)
	wantSeg(t, d, 0, 4, 5, 6)
	wantSeg(t, d, 1, 2)
	wantFree(t, d, 16)
}

func TestSyncRefuses(t *testing.T) {
	d := newDisk(t, 5)
	put(t, d, 0, 1)
	put(t, d, 1, 2)
	for _, seg := range []int{math.MinInt, -1, 2, math.MaxInt} {
		wantErr(t, "Sync of no segment", d.Sync(seg), api.ErrArg)
	}
	d.Crash(keepNone)
	wantSeg(t, d, 0)
	wantSeg(t, d, 1)
}

func TestSyncLeavesSlots(t *testing.T) {
	d := newDisk(t, 5)
	write(t, d, 0, full(1))
	write(t, d, 1, full(2))
	wantErr(t, "Sync", d.Sync(0), api.OK)
	wantErr(t, "Sync", d.Sync(1), api.OK)
	d.Crash(keepNone)
	wantHead(t, d, 0, blank())
	wantHead(t, d, 1, blank())
}

// P1.3

func TestTruncateRefuses(t *testing.T) {
	d := newDisk(t, 9)
	put(t, d, 0, 1, 2, 3)
	put(t, d, 1, 4)
	for _, c := range [][2]int{{-1, 0}, {2, 0}, {math.MinInt, 0}, {math.MaxInt, 0}, {0, -1}, {0, 4}, {1, 2}, {1, 3}, {0, math.MinInt}, {0, math.MaxInt}} {
		wantErr(t, "Truncate", d.Truncate(c[0], c[1]), api.ErrArg)
	}
	wantSeg(t, d, 0, 1, 2, 3)
	wantSeg(t, d, 1, 4)
}

func TestTruncateLeavesTheFirst(t *testing.T) {
	d := newDisk(t, 9)
	put(t, d, 0, 1, 2, 3)
	put(t, d, 1, 4)
	wantErr(t, "Truncate to its length", d.Truncate(0, 3), api.OK)
	wantSeg(t, d, 0, 1, 2, 3)
	wantErr(t, "Truncate", d.Truncate(0, 1), api.OK)
	wantSeg(t, d, 0, 1)
	wantFree(t, d, 7)
	wantErr(t, "Truncate to nothing", d.Truncate(0, 0), api.OK)
	wantErr(t, "Truncate of nothing", d.Truncate(0, 0), api.OK)
	wantErr(t, "Truncate past the end", d.Truncate(0, 1), api.ErrArg)
	wantSeg(t, d, 0)
	wantSeg(t, d, 1, 4)
	wantFree(t, d, 8)
}

// behindTruncate is what a crash leaves of two safe and two loose bytes, of which n were left, and one more was put behind.
func behindTruncate(t *testing.T, n int, more bool, keep [4]int) []byte {
	d := newDisk(t, 9)
	put(t, d, 0, 1, 2)
	wantErr(t, "Sync", d.Sync(0), api.OK)
	put(t, d, 0, 3, 4)
	wantErr(t, "Truncate", d.Truncate(0, n), api.OK)
	if more {
		put(t, d, 0, 9)
	}
	d.Crash(keep)
	return d.Read(0)
}

func TestTruncateKeepsSafeAndLoose(t *testing.T) {
	for _, c := range []struct {
		n    int
		more bool
		keep [4]int
		want []byte
	}{
		{0, false, keepAll, nil},
		{1, false, keepNone, []byte{1}},
		{1, false, keepAll, []byte{1}},
		{2, false, keepAll, []byte{1, 2}},
		{3, false, keepNone, []byte{1, 2}},
		{3, false, keepAll, []byte{1, 2, 3}},
		{4, false, keepNone, []byte{1, 2}},
		{4, false, keepAll, []byte{1, 2, 3, 4}},
		{0, true, keepNone, nil},
		{1, true, keepNone, []byte{1}},
		{1, true, keepAll, []byte{1, 9}},
		{2, true, keepNone, []byte{1, 2}},
		{3, true, keepNone, []byte{1, 2}},
		{3, true, [4]int{1, 0, 0, 0}, []byte{1, 2, 3}},
		{3, true, keepAll, []byte{1, 2, 3, 9}},
	} {
		if got := behindTruncate(t, c.n, c.more, c.keep); !bytes.Equal(got, c.want) {
			t.Errorf("Truncate to %d, more %v, kept %v: %v, want %v", c.n, c.more, c.keep, got, c.want)
		}
	}
}

// P1.4

func TestWriteRefuses(t *testing.T) {
	d := newDisk(t, 9)
	for _, slot := range []int{math.MinInt, -1, 2, math.MaxInt} {
		wantErr(t, "Write to no slot", d.Write(slot, full(1)), api.ErrArg)
	}
	for _, n := range []int{0, 1, api.SlotSize - 1, api.SlotSize + 1, 2 * api.SlotSize} {
		wantErr(t, "Write of another length", d.Write(0, bytes.Repeat([]byte{7}, n)), api.ErrArg)
	}
	wantErr(t, "Write of none", d.Write(1, nil), api.ErrArg)
	wantHead(t, d, 0, blank())
	wantHead(t, d, 1, blank())
}

func TestWriteIsLooseTillSyncHead(t *testing.T) {
	d := newDisk(t, 0)
	write(t, d, 0, full(1))
	write(t, d, 1, full(2))
	wantHead(t, d, 0, full(1))
	wantHead(t, d, 1, full(2))
	d.Crash(keepNone)
	wantHead(t, d, 0, blank())
	wantHead(t, d, 1, blank())

	write(t, d, 0, full(3))
	write(t, d, 1, full(4))
	wantErr(t, "SyncHead", d.SyncHead(), api.OK)
	write(t, d, 1, full(5))
	write(t, d, 1, full(6))
	wantHead(t, d, 1, full(6))
	d.Crash(keepNone)
	wantHead(t, d, 0, full(3))
	wantHead(t, d, 1, full(4))
}

func TestSyncHeadLeavesSegments(t *testing.T) {
	d := newDisk(t, 9)
	put(t, d, 0, 1)
	put(t, d, 1, 2)
	wantErr(t, "SyncHead", d.SyncHead(), api.OK)
	d.Crash(keepNone)
	wantSeg(t, d, 0)
	wantSeg(t, d, 1)
}

// P1.5

// changes are the calls that change something, on a disk that has room.
var changes = []struct {
	name string
	call func(d *disk.Disk) api.Errno
}{
	{"Append", func(d *disk.Disk) api.Errno { return d.Append(0, []byte{50, 51}) }},
	{"Append of nothing", func(d *disk.Disk) api.Errno { return d.Append(1, nil) }},
	{"Sync", func(d *disk.Disk) api.Errno { return d.Sync(0) }},
	{"Sync of the other", func(d *disk.Disk) api.Errno { return d.Sync(1) }},
	{"Truncate", func(d *disk.Disk) api.Errno { return d.Truncate(0, 0) }},
	{"Truncate to its length", func(d *disk.Disk) api.Errno { return d.Truncate(1, len(d.Read(1))) }},
	{"Write", func(d *disk.Disk) api.Errno { return d.Write(1, full(90)) }},
	{"SyncHead", func(d *disk.Disk) api.Errno { return d.SyncHead() }},
}

// halfSynced is a disk with safe and loose bytes everywhere.
func halfSynced(t *testing.T) *disk.Disk {
	t.Helper()
	d := newDisk(t, 40)
	put(t, d, 0, 1, 2)
	put(t, d, 1, 3)
	write(t, d, 0, full(10))
	write(t, d, 1, full(20))
	wantErr(t, "Sync", d.Sync(0), api.OK)
	wantErr(t, "Sync", d.Sync(1), api.OK)
	wantErr(t, "SyncHead", d.SyncHead(), api.OK)
	put(t, d, 0, 4)
	put(t, d, 1, 5, 6)
	write(t, d, 0, full(30))
	write(t, d, 1, full(40))
	return d
}

func TestFuseCountsCallsThatChange(t *testing.T) {
	for _, c := range changes {
		for calls := range 4 {
			d := halfSynced(t)
			d.Fuse(calls, 0)
			for range calls {
				wantErr(t, c.name+" within the fuse", c.call(d), api.OK)
				if d.Dead() {
					t.Fatalf("%s: dead too soon", c.name)
				}
			}
			wantErr(t, c.name+" behind the fuse", c.call(d), api.ErrDead)
			if !d.Dead() {
				t.Fatalf("%s: not dead", c.name)
			}
			wantErr(t, c.name+" of a dead disk", c.call(d), api.ErrDead)
		}
	}
}

func TestKillingCallDoesNothing(t *testing.T) {
	for _, c := range changes {
		for _, part := range []int{math.MinInt, -1, 0} {
			d := halfSynced(t)
			d.Fuse(0, part)
			wantErr(t, c.name, c.call(d), api.ErrDead)
			d.Crash(keepAll)
			wantSeg(t, d, 0, 1, 2, 4)
			wantSeg(t, d, 1, 3, 5, 6)
			wantHead(t, d, 0, full(30))
			wantHead(t, d, 1, full(40))

			d = halfSynced(t)
			d.Fuse(0, part)
			wantErr(t, c.name, c.call(d), api.ErrDead)
			d.Crash(keepNone)
			wantSeg(t, d, 0, 1, 2)
			wantSeg(t, d, 1, 3)
			wantHead(t, d, 0, full(10))
			wantHead(t, d, 1, full(20))
		}
	}
}

func TestKillingAppendLeavesFirstBytes(t *testing.T) {
	for _, c := range []struct {
		part int
		left []byte
	}{{-1, nil}, {0, nil}, {1, []byte{7}}, {2, []byte{7, 8}}, {3, []byte{7, 8, 9}}, {4, []byte{7, 8, 9}}, {math.MaxInt, []byte{7, 8, 9}}} {
		for seg := range 2 {
			for keep := range 6 {
				d := newDisk(t, 4)
				put(t, d, seg, 1)
				d.Fuse(0, c.part)
				wantErr(t, "Append", d.Append(seg, []byte{7, 8, 9}), api.ErrDead)
				wantErr(t, "Append again", d.Append(seg, []byte{6}), api.ErrDead)
				var k [4]int
				k[seg] = keep
				d.Crash(k)
				all := append([]byte{1}, c.left...)
				want := all[:min(keep, len(all))]
				wantSeg(t, d, seg, want...)
				wantSeg(t, d, 1-seg)
				wantFree(t, d, 4-len(want))
			}
		}
	}
}

func TestPartIsOfAppendsAlone(t *testing.T) {
	for _, c := range changes[2:] {
		d := halfSynced(t)
		d.Fuse(0, 100)
		wantErr(t, c.name, c.call(d), api.ErrDead)
		d.Crash(keepNone)
		wantSeg(t, d, 0, 1, 2)
		wantSeg(t, d, 1, 3)
		wantHead(t, d, 0, full(10))
		wantHead(t, d, 1, full(20))
	}
}

func TestErrorsAndReadsBurnNoFuse(t *testing.T) {
	d := newDisk(t, 3)
	d.Fuse(0, 9)
	wantErr(t, "Append to none", d.Append(2, nil), api.ErrArg)
	wantErr(t, "Append of too much", d.Append(0, make([]byte, 4)), api.ErrFull)
	wantErr(t, "Sync of none", d.Sync(-1), api.ErrArg)
	wantErr(t, "Truncate of none", d.Truncate(2, 0), api.ErrArg)
	wantErr(t, "Truncate past the end", d.Truncate(0, 1), api.ErrArg)
	wantErr(t, "Write to none", d.Write(2, full(1)), api.ErrArg)
	wantErr(t, "Write too short", d.Write(0, full(1)[:31]), api.ErrArg)
	if d.Dead() {
		t.Fatal("a call with an error killed the disk")
	}
	d.Fuse(1, 9)
	wantErr(t, "Append of too much", d.Append(0, make([]byte, 4)), api.ErrFull)
	wantErr(t, "Sync of none", d.Sync(2), api.ErrArg)
	wantErr(t, "Truncate of none", d.Truncate(-1, 0), api.ErrArg)
	wantErr(t, "Write to none", d.Write(-1, full(1)), api.ErrArg)
	wantSeg(t, d, 0)
	wantHead(t, d, 0, blank())
	wantFree(t, d, 3)
	wantErr(t, "the one call of the fuse", d.SyncHead(), api.OK)
	wantErr(t, "the killing call", d.SyncHead(), api.ErrDead)
}

func TestFuseIsReplaced(t *testing.T) {
	d := newDisk(t, 9)
	d.Fuse(0, 1)
	d.Fuse(1, 2)
	wantErr(t, "within the later fuse", d.Sync(0), api.OK)
	wantErr(t, "behind it", d.Append(0, []byte{1, 2, 3}), api.ErrDead)
	d.Crash(keepAll)
	wantSeg(t, d, 0, 1, 2)
	for _, calls := range []int{-1, -2, math.MinInt} {
		d.Fuse(0, 1)
		d.Fuse(calls, 1)
		for range 10 {
			wantErr(t, "without a fuse", d.Sync(0), api.OK)
		}
	}
	d.Fuse(math.MaxInt, 1)
	wantErr(t, "with a long fuse", d.Sync(0), api.OK)
	d.Fuse(2, 0)
	wantErr(t, "with a shorter fuse", d.Sync(0), api.OK)
	wantErr(t, "with a shorter fuse", d.Sync(0), api.OK)
	wantErr(t, "behind a shorter fuse", d.Sync(0), api.ErrDead)
}

func TestFuseOfDeadDiskChangesNothing(t *testing.T) {
	for _, calls := range []int{-1, 0, 5} {
		d := newDisk(t, 9)
		put(t, d, 0, 1)
		d.Fuse(0, 1)
		wantErr(t, "the killing call", d.Append(0, []byte{2, 3}), api.ErrDead)
		d.Fuse(calls, 2)
		if !d.Dead() {
			t.Fatalf("Fuse(%d) made it alive", calls)
		}
		wantErr(t, "a call of a dead disk", d.Append(0, []byte{4}), api.ErrDead)
		d.Crash(keepAll)
		wantSeg(t, d, 0, 1, 2)
		for range 9 {
			wantErr(t, "behind the crash", d.Sync(0), api.OK)
		}
	}
}

func TestDeadIsAheadOfOtherErrors(t *testing.T) {
	d := newDisk(t, 2)
	d.Fuse(0, 0)
	wantErr(t, "the killing call", d.Sync(0), api.ErrDead)
	wantErr(t, "Append to none", d.Append(2, nil), api.ErrDead)
	wantErr(t, "Append of too much", d.Append(0, make([]byte, 3)), api.ErrDead)
	wantErr(t, "Sync of none", d.Sync(2), api.ErrDead)
	wantErr(t, "Truncate of none", d.Truncate(2, 0), api.ErrDead)
	wantErr(t, "Truncate past the end", d.Truncate(0, 1), api.ErrDead)
	wantErr(t, "Write to none", d.Write(2, full(1)), api.ErrDead)
	wantErr(t, "Write of none", d.Write(0, nil), api.ErrDead)
	wantErr(t, "SyncHead", d.SyncHead(), api.ErrDead)
	d.Crash(keepAll)
	wantSeg(t, d, 0)
	wantHead(t, d, 0, blank())
}

// P1.6

func TestCrashKeepsFirstLooseBytes(t *testing.T) {
	for _, k := range []int{math.MinInt, -1, 0, 1, 2, 3, 4, math.MaxInt} {
		for seg := range 2 {
			d := newDisk(t, 9)
			put(t, d, seg, 1, 2)
			wantErr(t, "Sync", d.Sync(seg), api.OK)
			put(t, d, seg, 3, 4, 5)
			put(t, d, 1-seg, 6, 7)
			keep := [4]int{}
			keep[seg] = k
			d.Crash(keep)
			stay := min(max(k, 0), 3)
			wantSeg(t, d, seg, []byte{1, 2, 3, 4, 5}[:2+stay]...)
			wantSeg(t, d, 1-seg)
			wantFree(t, d, 7-stay)
			d.Crash(keepNone) // what stayed is safe
			wantSeg(t, d, seg, []byte{1, 2, 3, 4, 5}[:2+stay]...)
		}
	}
}

func TestCrashMixesSlots(t *testing.T) {
	for _, k := range []int{math.MinInt, -1, 0, 1, 7, 31, 32, 33, math.MaxInt} {
		for slot := range 2 {
			d := newDisk(t, 9)
			write(t, d, slot, full(1))
			wantErr(t, "SyncHead", d.SyncHead(), api.OK)
			write(t, d, slot, full(100))
			write(t, d, 1-slot, full(200))
			keep := [4]int{}
			keep[2+slot] = k
			d.Crash(keep)
			stay := min(max(k, 0), api.SlotSize)
			want := append(full(100)[:stay:stay], full(1)[stay:]...)
			wantHead(t, d, slot, want)
			wantHead(t, d, 1-slot, blank())
			d.Crash(keepAll) // nothing is loose any more
			wantHead(t, d, slot, want)
			wantHead(t, d, 1-slot, blank())
		}
	}
}

func TestCrashLeavesSlotsThatWereNotWritten(t *testing.T) {
	d := newDisk(t, 9)
	write(t, d, 0, full(1))
	wantErr(t, "SyncHead", d.SyncHead(), api.OK)
	d.Crash(keepAll)
	wantHead(t, d, 0, full(1))
	wantHead(t, d, 1, blank())
	write(t, d, 0, full(2))
	d.Crash(keepNone)
	d.Crash([4]int{0, 0, 5, 5})
	wantHead(t, d, 0, full(1))
	wantHead(t, d, 1, blank())
}

func TestCrashMakesAlive(t *testing.T) {
	d := newDisk(t, 9)
	d.Fuse(0, 0)
	wantErr(t, "the killing call", d.SyncHead(), api.ErrDead)
	d.Crash(keepNone)
	if d.Dead() {
		t.Fatal("dead behind a crash")
	}
	wantFree(t, d, 9)
	d.Fuse(1, 0) // a disk that lives loses its fuse, too
	d.Crash(keepNone)
	for range 9 {
		wantErr(t, "behind the crash", d.Sync(0), api.OK)
	}
	if d.Dead() {
		t.Fatal("the crash left a fuse")
	}
}

// P1.7

func TestCrashThatKeepsAllIsASync(t *testing.T) {
	crashed, synced := halfSynced(t), halfSynced(t)
	crashed.Crash([4]int{1, 2, api.SlotSize, api.SlotSize})
	wantErr(t, "Sync", synced.Sync(0), api.OK)
	wantErr(t, "Sync", synced.Sync(1), api.OK)
	wantErr(t, "SyncHead", synced.SyncHead(), api.OK)
	for _, d := range []*disk.Disk{crashed, synced} {
		for range 2 {
			wantSeg(t, d, 0, 1, 2, 4)
			wantSeg(t, d, 1, 3, 5, 6)
			wantHead(t, d, 0, full(30))
			wantHead(t, d, 1, full(40))
			wantFree(t, d, 34)
			d.Crash(keepNone)
		}
	}
}

func TestSafeStays(t *testing.T) {
	d := newDisk(t, 9)
	put(t, d, 0, 1, 2)
	write(t, d, 0, full(1))
	wantErr(t, "Sync", d.Sync(0), api.OK)
	wantErr(t, "SyncHead", d.SyncHead(), api.OK)
	for i := range 5 {
		put(t, d, 0, byte(i))
		put(t, d, 1, byte(i))
		d.Fuse(0, i)
		wantErr(t, "the killing call", d.Append(0, []byte{7, 8}), api.ErrDead)
		d.Crash(keepNone)
		wantSeg(t, d, 0, 1, 2)
		wantSeg(t, d, 1)
		wantHead(t, d, 0, full(1))
	}
}

// R5

func TestNoDisk(t *testing.T) {
	for name, d := range map[string]*disk.Disk{"nil": nil, "not made": {}} {
		for range 2 {
			wantErr(t, name, d.Append(0, nil), api.ErrNil)
			wantErr(t, name, d.Append(5, make([]byte, 99)), api.ErrNil)
			wantErr(t, name, d.Sync(0), api.ErrNil)
			wantErr(t, name, d.Sync(5), api.ErrNil)
			wantErr(t, name, d.Truncate(0, 0), api.ErrNil)
			wantErr(t, name, d.Truncate(5, -1), api.ErrNil)
			wantErr(t, name, d.Write(0, full(1)), api.ErrNil)
			wantErr(t, name, d.Write(5, nil), api.ErrNil)
			wantErr(t, name, d.SyncHead(), api.ErrNil)
			if len(d.Read(0)) != 0 || len(d.Head(0)) != 0 || d.Free() != 0 || d.Dead() {
				t.Errorf("%s: %v %v %d %v, want zeros", name, d.Read(0), d.Head(0), d.Free(), d.Dead())
			}
			d.Fuse(0, 0)
			d.Crash(keepAll)
		}
	}
}

func TestCopyIsNoDisk(t *testing.T) {
	d := newDisk(t, 9)
	put(t, d, 0, 1)
	copied := *d
	wantErr(t, "Append to a copy", copied.Append(0, []byte{2}), api.ErrNil)
	copied.Crash(keepNone)
	if len(copied.Read(0)) != 0 || copied.Free() != 0 {
		t.Errorf("a copy tells %v, %d, want zeros", copied.Read(0), copied.Free())
	}
	put(t, d, 0, 3)
	wantSeg(t, d, 0, 1, 3)
}

// R3

func TestWhatIsHandedInIsNotKept(t *testing.T) {
	d := newDisk(t, 20)
	b := []byte{1, 2, 3, 90, 91}
	put(t, d, 0, b[:3]...)
	put(t, d, 0, 4)
	put(t, d, 1, b[:3]...)
	put(t, d, 1, 5)
	if !bytes.Equal(b, []byte{1, 2, 3, 90, 91}) {
		t.Fatalf("what was handed in was changed: %v", b)
	}
	clear(b)
	wantSeg(t, d, 0, 1, 2, 3, 4)
	wantSeg(t, d, 1, 1, 2, 3, 5)

	h := full(1)
	write(t, d, 0, h)
	write(t, d, 1, h)
	if !bytes.Equal(h, full(1)) {
		t.Fatalf("what was handed in was changed: %v", h)
	}
	clear(h)
	wantHead(t, d, 0, full(1))
	wantHead(t, d, 1, full(1))
	wantErr(t, "SyncHead", d.SyncHead(), api.OK)
	wantHead(t, d, 0, full(1))
}

func TestKillingAppendKeepsNothingHandedIn(t *testing.T) {
	d := newDisk(t, 20)
	b := []byte{1, 2, 3}
	d.Fuse(0, 2)
	wantErr(t, "the killing call", d.Append(0, b), api.ErrDead)
	clear(b)
	d.Crash(keepAll)
	put(t, d, 0, 9)
	wantSeg(t, d, 0, 1, 2, 9)
	if b[2] != 0 {
		t.Fatal("what was handed in was changed")
	}
}

func TestWhatIsHandedOutIsNew(t *testing.T) {
	d := newDisk(t, 20)
	put(t, d, 0, 1, 2, 3)
	write(t, d, 0, full(1))
	got, again := d.Read(0), d.Read(0)
	clear(got)
	_ = append(got, 8, 8)
	put(t, d, 0, 4)
	wantSeg(t, d, 0, 1, 2, 3, 4)
	if !bytes.Equal(again, []byte{1, 2, 3}) {
		t.Fatalf("two answers share memory: %v", again)
	}
	head, other := d.Head(0), d.Head(0)
	clear(head)
	wantHead(t, d, 0, full(1))
	if !bytes.Equal(other, full(1)) {
		t.Fatalf("two answers share memory: %v", other)
	}
	// An answer stays as it was told, whatever the disk does then.
	wantErr(t, "Truncate", d.Truncate(0, 0), api.OK)
	put(t, d, 0, 9, 9, 9)
	write(t, d, 0, full(2))
	if !bytes.Equal(again, []byte{1, 2, 3}) || !bytes.Equal(other, full(1)) {
		t.Fatalf("answers changed: %v %v", again, other)
	}
}

// The chapter's examples.

func TestExamples(t *testing.T) {
	d := newDisk(t, 10)
	put(t, d, 0, 1, 2, 3)
	wantErr(t, "Sync", d.Sync(0), api.OK)
	put(t, d, 0, 4, 5)
	wantFree(t, d, 5)
	d.Crash([4]int{1, 0, 0, 0})
	wantSeg(t, d, 0, 1, 2, 3, 4)
	wantFree(t, d, 6)
	d.Fuse(1, 2)
	put(t, d, 1, 7)
	wantErr(t, "Append", d.Append(1, []byte{8, 9, 9}), api.ErrDead)
	wantSeg(t, d, 1)
	d.Crash([4]int{9, 9, 0, 0})
	wantSeg(t, d, 1, 7, 8, 9)
	wantErr(t, "Append", d.Append(0, make([]byte, 4)), api.ErrFull)
	wantFree(t, d, 3)
}
