package head_test

import (
	"bytes"
	"encoding/binary"
	"math"
	"math/rand/v2"
	"testing"

	"foreman/api"
	"foreman/disk"
	"foreman/head"
)

const lastSerial = math.MaxUint64

// chance is the same in each run.
func chance() *rand.Rand { return rand.New(rand.NewPCG(5, 5)) }

func of(serial, epoch uint64, live uint8) api.Head {
	return api.Head{Serial: serial, Epoch: epoch, Live: live}
}

// written is the chapter's words of a head's bytes, with the library's means, whether the head is right or not.
func written(h api.Head) []byte {
	b := binary.LittleEndian.AppendUint64(nil, h.Serial)
	b = binary.LittleEndian.AppendUint64(b, h.Epoch)
	b = append(b, h.Live, 0, 0, 0, 0, 0, 0, 0)
	return binary.LittleEndian.AppendUint64(b, h.Serial)
}

// numbers are those at the edges, and some with no two bytes the same.
func numbers() []uint64 {
	return []uint64{0, 1, 2, 3, 127, 128, 255, 256, 257, 1<<32 - 1, 1 << 32, 1<<63 - 1, 1 << 63, 0x0102030405060708, 0xF8E7D6C5B4A39281, lastSerial - 1, lastSerial}
}

// rightHeads is right ones, at the edges and between.
func rightHeads() []api.Head {
	var l []api.Head
	for _, serial := range numbers() {
		if serial == 0 {
			continue
		}
		for _, epoch := range numbers() {
			l = append(l, of(serial, epoch, 0), of(serial, epoch, 1))
		}
	}
	return l
}

// wrongHeads is heads that are not right.
func wrongHeads() []api.Head {
	l := []api.Head{of(0, 0, 0), of(0, 0, 1), of(0, 5, 0), of(0, lastSerial, 1), of(0, 0, 2)}
	for live := 2; live < 256; live++ {
		l = append(l, of(1, 0, uint8(live)), of(lastSerial, 3, uint8(live)))
	}
	return l
}

func newDisk(t *testing.T) *disk.Disk {
	t.Helper()
	d, e := disk.New(0)
	if e != api.OK {
		t.Fatalf("New(0): error %d", e)
	}
	return d
}

// deadDisk is one that had a head when it died.
func deadDisk(t *testing.T) *disk.Disk {
	t.Helper()
	d := newDisk(t)
	save(t, d, api.Head{})
	d.Fuse(0, 0)
	d.SyncHead()
	if !d.Dead() {
		t.Fatal("the disk is alive")
	}
	return d
}

// noDisks is disks that New did not answer.
func noDisks(t *testing.T) []*disk.Disk {
	t.Helper()
	d := newDisk(t)
	save(t, d, api.Head{})
	copied := *d
	return []*disk.Disk{nil, {}, &copied}
}

func save(t *testing.T, d *disk.Disk, h api.Head) api.Head {
	t.Helper()
	got, e := head.Save(d, h)
	if e != api.OK {
		t.Fatalf("Save of %v: error %d", h, e)
	}
	return got
}

func wantLoad(t *testing.T, what string, d *disk.Disk, want api.Head, err api.Errno) {
	t.Helper()
	if h, e := head.Load(d); h != want || e != err {
		t.Fatalf("Load %s: %v, error %d; want %v, %d", what, h, e, want, err)
	}
}

func wantRead(t *testing.T, what string, b []byte, want api.Head, ok bool) {
	t.Helper()
	was := bytes.Clone(b)
	if h, got := head.Read(b); h != want || got != ok {
		t.Fatalf("Read of %s, %v: %v, %v; want %v, %v", what, b, h, got, want, ok)
	}
	if !bytes.Equal(b, was) {
		t.Fatalf("Read changed %v to %v", was, b)
	}
}

func wantPick(t *testing.T, what string, zero, one []byte, want api.Head, ok bool) {
	t.Helper()
	wasZero, wasOne := bytes.Clone(zero), bytes.Clone(one)
	if h, got := head.Pick(zero, one); h != want || got != ok {
		t.Fatalf("Pick of %s: %v, %v; want %v, %v", what, h, got, want, ok)
	}
	if !bytes.Equal(zero, wasZero) || !bytes.Equal(one, wasOne) {
		t.Fatalf("Pick of %s changed what it was handed", what)
	}
}

func wantSlots(t *testing.T, what string, d *disk.Disk, zero, one []byte) {
	t.Helper()
	for slot, want := range [][]byte{zero, one} {
		if got := d.Head(slot); !bytes.Equal(got, want) {
			t.Fatalf("%s: slot %d is %v, want %v", what, slot, got, want)
		}
	}
}

func blank() []byte { return make([]byte, api.SlotSize) }

// P5.1

func TestRight(t *testing.T) {
	for _, h := range rightHeads() {
		if !head.Right(h) {
			t.Errorf("Right(%v): false", h)
		}
	}
	for _, h := range wrongHeads() {
		if head.Right(h) {
			t.Errorf("Right(%v): true", h)
		}
	}
}

func TestBytes(t *testing.T) {
	for _, h := range rightHeads() {
		if b, e := head.Bytes(h); !bytes.Equal(b, written(h)) || e != api.OK {
			t.Errorf("Bytes(%v): %v, error %d; want %v", h, b, e, written(h))
		}
	}
	for _, h := range wrongHeads() {
		if b, e := head.Bytes(h); len(b) != 0 || e != api.ErrHead {
			t.Errorf("Bytes(%v): %v, error %d; want nothing, ErrHead", h, b, e)
		}
	}
}

func TestBytesAreNew(t *testing.T) {
	h := of(3, 1, 1)
	a, _ := head.Bytes(h)
	b, _ := head.Bytes(h)
	clear(a[:cap(a)])
	if !bytes.Equal(b, written(h)) {
		t.Errorf("one answer changed with the other: %v", b)
	}
	if c, _ := head.Bytes(h); !bytes.Equal(c, written(h)) {
		t.Errorf("a later answer changed with an earlier one: %v", c)
	}
}

func TestReadIsWhatWasPut(t *testing.T) {
	for _, h := range rightHeads() {
		wantRead(t, "a right head", written(h), h, true)
	}
	for _, h := range wrongHeads() {
		wantRead(t, "a head that is not right", written(h), api.Head{}, false)
	}
}

func TestReadTakes32Bytes(t *testing.T) {
	for _, h := range rightHeads() {
		b := append(written(h), 0, 0)
		for n := range len(b) + 1 {
			if n != api.SlotSize {
				wantRead(t, "another number of bytes", b[:n:n], api.Head{}, false)
				wantRead(t, "another number of bytes, with room behind", b[:n], api.Head{}, false)
			}
		}
		wantRead(t, "32 bytes, with room behind", b[:api.SlotSize], h, true)
	}
	wantRead(t, "none", nil, api.Head{}, false)
	wantRead(t, "noughts", blank(), api.Head{}, false)
	wantRead(t, "a head's bytes twice", append(written(of(1, 1, 1)), written(of(1, 1, 1))...), api.Head{}, false)
}

func TestReadWantsNoughts(t *testing.T) {
	for at := 17; at < 24; at++ {
		for x := 1; x < 256; x++ {
			b := written(of(3, 1, 1))
			b[at] = byte(x)
			wantRead(t, "a nought that is none", b, api.Head{}, false)
		}
	}
}

func TestReadWantsBothSerials(t *testing.T) {
	for _, a := range numbers() {
		for _, b := range numbers() {
			both := append(written(of(a, 7, 1))[:24], written(of(b, 7, 1))[24:]...)
			if a == b && a != 0 {
				wantRead(t, "Serials that are alike", both, of(a, 7, 1), true)
			} else {
				wantRead(t, "Serials that are unlike", both, api.Head{}, false)
			}
		}
	}
}

// TestReadOneWay turns each byte about: what is read at all is right, and its bytes are those that were read.
func TestReadOneWay(t *testing.T) {
	for _, from := range []api.Head{of(1, 0, 0), of(3, 1, 1), of(0x0102030405060708, 0x1112131415161718, 0), of(lastSerial, lastSerial, 1)} {
		for at := range api.SlotSize {
			for x := range 256 {
				b := written(from)
				b[at] = byte(x)
				h, ok := head.Read(b)
				still := b[at] == written(from)[at]
				inEpoch := at >= 8 && at < 16
				inLive := at == 16 && x < 2
				if want := still || inEpoch || inLive; ok != want {
					t.Fatalf("Read of %v: %v, %v; want %v", b, h, ok, want)
				}
				if ok && !bytes.Equal(written(h), b) || !ok && h != (api.Head{}) {
					t.Fatalf("Read of %v: %v, %v", b, h, ok)
				}
			}
		}
	}
}

func TestReadDrawn(t *testing.T) {
	r := chance()
	for range 20000 {
		h := of(r.Uint64()>>r.IntN(64), r.Uint64()>>r.IntN(64), uint8(r.IntN(3)))
		if h.Serial > 0 && h.Live < 2 {
			wantRead(t, "one that is drawn", written(h), h, true)
		} else {
			wantRead(t, "one that is drawn", written(h), api.Head{}, false)
		}
		b := written(h)
		b[r.IntN(8)+r.IntN(2)*24] ^= byte(1 + r.IntN(255))
		wantRead(t, "one with a Serial turned about", b, api.Head{}, false)
	}
}

// P5.2

func TestPickTheGreaterSerial(t *testing.T) {
	for _, a := range numbers() {
		for _, b := range numbers() {
			if a%2 != 0 || b%2 != 1 || a == 0 {
				continue
			}
			want := of(a, 1, 0)
			if b > a {
				want = of(b, 0, 1)
			}
			wantPick(t, "two heads", written(of(a, 1, 0)), written(of(b, 0, 1)), want, true)
		}
	}
	for _, s := range []uint64{2, 256, 1 << 32, 1 << 62, lastSerial - 1} {
		// The Epoch says nothing of which one it is.
		wantPick(t, "neighbours", written(of(s, 0, 1)), written(of(s-1, 9, 0)), of(s, 0, 1), true)
		wantPick(t, "neighbours", written(of(s, 9, 1)), written(of(s+1, 0, 0)), of(s+1, 0, 0), true)
	}
}

func TestPickTheOneThatCounts(t *testing.T) {
	torn := written(of(9, 9, 0))
	torn[24] = 8
	evenTorn := written(of(8, 9, 0))
	evenTorn[0] = 6
	nothing := [][]byte{nil, {}, blank(), written(of(2, 0, 2)), written(of(9, 0, 2)), torn, evenTorn, written(of(2, 0, 0))[:31], append(written(of(9, 0, 0)), 0)}
	for _, none := range nothing {
		wantPick(t, "slot 0 alone", written(of(4, 2, 1)), none, of(4, 2, 1), true)
		wantPick(t, "slot 1 alone", none, written(of(5, 2, 1)), of(5, 2, 1), true)
		for _, other := range nothing {
			wantPick(t, "nothing", none, other, api.Head{}, false)
		}
	}
}

func TestPickOfAnothersSlot(t *testing.T) {
	even, odd := written(of(4, 2, 1)), written(of(5, 2, 1))
	wantPick(t, "both in the other one's slot", odd, even, api.Head{}, false)
	wantPick(t, "an odd one in slot 0", odd, blank(), api.Head{}, false)
	wantPick(t, "an even one in slot 1", blank(), even, api.Head{}, false)
	wantPick(t, "an odd one in both", odd, odd, of(5, 2, 1), true)
	wantPick(t, "an even one in both", even, even, of(4, 2, 1), true)
	wantPick(t, "a greater odd one in slot 0", odd, written(of(3, 2, 1)), of(3, 2, 1), true)
	wantPick(t, "a greater even one in slot 1", written(of(2, 2, 1)), even, of(2, 2, 1), true)
	wantPick(t, "the last one in slot 0", written(of(lastSerial, 0, 0)), written(of(1, 0, 0)), of(1, 0, 0), true)
	wantPick(t, "the last one in slot 1", written(of(2, 0, 0)), written(of(lastSerial, 0, 0)), of(lastSerial, 0, 0), true)
}

func TestPickOfSharedMemory(t *testing.T) {
	room := append(written(of(4, 1, 0)), written(of(5, 1, 1))...)
	was := bytes.Clone(room)
	wantPick(t, "both in one list", room[:32], room[32:], of(5, 1, 1), true)
	if !bytes.Equal(room, was) {
		t.Error("Pick wrote into spare room")
	}
}

// P5.3

func TestSaveOneBehindTheOther(t *testing.T) {
	d, _ := disk.New(9)
	d.Append(0, []byte{1, 2, 3})
	d.Append(1, []byte{4})
	h := api.Head{}
	slots := [2][]byte{blank(), blank()}
	for i := range 600 {
		h.Epoch, h.Live = uint64(7*i), uint8(i/3%2)
		want := of(uint64(i+1), h.Epoch, h.Live)
		if h = save(t, d, h); h != want {
			t.Fatalf("Save: %v, want %v", h, want)
		}
		slots[(i+1)%2] = written(want)
		wantSlots(t, "behind Save", d, slots[0], slots[1])
		wantLoad(t, "behind Save", d, want, api.OK)
		if i%5 == 0 { // what was saved is safe
			d.Crash([4]int{9, 9, 0, 0})
			wantSlots(t, "behind a crash", d, slots[0], slots[1])
			wantLoad(t, "behind a crash", d, want, api.OK)
		}
	}
	if !bytes.Equal(d.Read(0), []byte{1, 2, 3}) || !bytes.Equal(d.Read(1), []byte{4}) {
		t.Error("Save changed a segment")
	}
}

func TestSaveOfAnySerial(t *testing.T) {
	for _, h := range rightHeads() {
		if h.Serial == lastSerial {
			continue
		}
		d := newDisk(t)
		want := of(h.Serial+1, h.Epoch, h.Live)
		if got := save(t, d, h); got != want {
			t.Fatalf("Save of %v: %v", h, got)
		}
		if want.Serial%2 == 0 {
			wantSlots(t, "an even one", d, written(want), blank())
		} else {
			wantSlots(t, "an odd one", d, blank(), written(want))
		}
		wantLoad(t, "of one head", d, want, api.OK)
	}
}

// TestSaveWritesNoMore: a Save is a Write and a SyncHead, and no other call that changes something.
func TestSaveWritesNoMore(t *testing.T) {
	for calls := range 4 {
		d := newDisk(t)
		d.Fuse(calls, 0)
		_, e := head.Save(d, of(1, 1, 1))
		if alive := calls >= 2; alive != (e == api.OK) || alive == d.Dead() {
			t.Errorf("Save with a fuse of %d: error %d, dead: %v", calls, e, d.Dead())
		}
		if calls == 2 {
			if e := d.SyncHead(); e != api.ErrDead {
				t.Errorf("a call behind Save, with a fuse of 2: error %d", e)
			}
		}
	}
}

func TestSaveOfAWrongHead(t *testing.T) {
	wrong := []api.Head{of(lastSerial, 0, 0), of(lastSerial, 4, 1), of(lastSerial, 0, 2)}
	for live := 2; live < 256; live++ {
		wrong = append(wrong, of(0, 0, uint8(live)), of(5, 1, uint8(live)))
	}
	d := newDisk(t)
	was := save(t, d, save(t, d, api.Head{}))
	zero, one := d.Head(0), d.Head(1)
	d.Fuse(1, 0)
	disks := append(noDisks(t), d, deadDisk(t))
	for _, h := range wrong {
		for i, x := range disks {
			if got, e := head.Save(x, h); got != (api.Head{}) || e != api.ErrHead {
				t.Fatalf("Save of %v on disk %d: %v, error %d; want nothing, ErrHead", h, i, got, e)
			}
		}
	}
	wantSlots(t, "behind ErrHead", d, zero, one)
	wantLoad(t, "behind ErrHead", d, was, api.OK)
	if e := d.SyncHead(); e != api.OK {
		t.Errorf("ErrHead burnt the fuse: error %d", e)
	}
}

func TestSaveOfTheLastSerials(t *testing.T) {
	d := newDisk(t)
	h := save(t, d, of(lastSerial-2, 1, 0))
	if h = save(t, d, h); h != of(lastSerial, 1, 0) {
		t.Fatalf("Save: %v", h)
	}
	wantLoad(t, "of the last one", d, h, api.OK)
	if got, e := head.Save(d, h); got != (api.Head{}) || e != api.ErrHead {
		t.Fatalf("Save behind the last one: %v, error %d", got, e)
	}
	wantSlots(t, "behind the last one", d, written(of(lastSerial-1, 1, 0)), written(h))
}

func TestNoDisk(t *testing.T) {
	for i, d := range noDisks(t) {
		if h, e := head.Save(d, of(1, 1, 1)); h != (api.Head{}) || e != api.ErrNil {
			t.Errorf("Save on no disk, %d: %v, error %d; want nothing, ErrNil", i, h, e)
		}
		if h, e := head.Load(d); h != (api.Head{}) || e != api.ErrNil {
			t.Errorf("Load of no disk, %d: %v, error %d; want nothing, ErrNil", i, h, e)
		}
	}
}

func TestDeadDisk(t *testing.T) {
	d := deadDisk(t)
	if h, e := head.Save(d, of(1, 1, 1)); h != (api.Head{}) || e != api.ErrDead {
		t.Errorf("Save on a dead disk: %v, error %d", h, e)
	}
	wantLoad(t, "of a dead disk", d, api.Head{}, api.ErrDead)
	d.Crash([4]int{})
	wantLoad(t, "of a disk that was dead", d, of(1, 0, 0), api.OK)

	empty := newDisk(t)
	empty.Fuse(0, 0)
	empty.SyncHead()
	wantLoad(t, "of a dead disk without a head", empty, api.Head{}, api.ErrDead)
}

func TestLoadOfWhatIsThere(t *testing.T) {
	slots := [][]byte{blank(), written(of(2, 1, 0)), written(of(3, 1, 1)), written(of(4, 0, 1)), written(of(4, 0, 2)), written(of(5, 7, 0)), append(written(of(9, 9, 1))[:31], 1)}
	for _, zero := range slots {
		for _, one := range slots {
			d := newDisk(t)
			d.Write(0, zero)
			d.Write(1, one) // loose, but read so
			want, ok := head.Pick(zero, one)
			err := api.OK
			if !ok {
				err = api.ErrHead
			}
			wantLoad(t, "of slots", d, want, err)
			wantSlots(t, "behind Load", d, zero, one)
		}
	}
}

func TestLoadChangesNothing(t *testing.T) {
	d := newDisk(t)
	h := save(t, d, of(6, 1, 1))
	d.Write(0, written(of(8, 2, 0))) // loose
	d.Fuse(1, 0)
	for range 5 {
		wantLoad(t, "again", d, of(8, 2, 0), api.OK)
	}
	if d.Dead() {
		t.Fatal("Load killed the disk")
	}
	if e := d.Write(1, d.Head(1)); e != api.OK {
		t.Fatalf("Load burnt the fuse: error %d", e)
	}
	d.Crash([4]int{})
	wantLoad(t, "behind a crash: what was loose is lost", d, h, api.OK)
}

// P5.4

// serialPairs is Serials of one slot: no byte alike, some alike, all alike but one; each old one below and above.
func serialPairs() [][2]uint64 {
	l := [][2]uint64{{1, 3}, {2, 4}, {254, 256}, {255, 257}, {65534, 65536}, {1<<32 - 1, 1<<32 + 1}, {0x0102030405060709, 0x1112131415161719}, {lastSerial - 2, lastSerial}, {1, lastSerial}, {2, lastSerial - 1}, {2, 1 << 63}}
	for at := range 8 {
		base := uint64(0x2021222324252627)
		l = append(l, [2]uint64{base, base ^ 0x10<<(8*at)})
	}
	r := chance()
	for range 200 { // bytes of few kinds, so that many agree
		a, b := uint64(0), uint64(0)
		for range 8 {
			a, b = a<<8|uint64(r.IntN(3)), b<<8|uint64(r.IntN(3))
		}
		if b = b&^1 | a&1; a != b && a != 0 && b != 0 {
			l = append(l, [2]uint64{a, b})
		}
	}
	for _, p := range l {
		l = append(l, [2]uint64{p[1], p[0]})
	}
	return l
}

// TestWrittenOver lays any first bytes of a head over another one.
func TestWrittenOver(t *testing.T) {
	for _, p := range serialPairs() {
		for _, was := range []api.Head{of(p[0], 5, 0), of(p[0], lastSerial, 1)} {
			for _, now := range []api.Head{of(p[1], 5, 0), of(p[1], 5, 1), of(p[1], 0x0102030405060708, 0)} {
				writtenOver(t, was, now)
			}
		}
	}
}

func writtenOver(t *testing.T, was, now api.Head) {
	t.Helper()
	a, e := head.Bytes(was)
	b, f := head.Bytes(now)
	if e != api.OK || f != api.OK {
		t.Fatalf("Bytes of %v and %v: errors %d, %d", was, now, e, f)
	}
	for k := range api.SlotSize + 1 {
		mixed := append(bytes.Clone(b[:k]), a[k:]...)
		switch {
		case bytes.Equal(mixed, a):
			wantRead(t, "the old one", mixed, was, true)
		case bytes.Equal(mixed, b):
			wantRead(t, "the new one", mixed, now, true)
		default:
			wantRead(t, "neither of two", mixed, api.Head{}, false)
		}
	}
}

// TestCrashWithinSave: the disk dies within Write, or within SyncHead, and keeps any number of the bytes.
func TestCrashWithinSave(t *testing.T) {
	for _, serial := range []uint64{0, 1, 2, 3, 254, 255, 256, 65535, 1<<32 - 1, 1<<40 + 7, lastSerial - 2, lastSerial - 1} {
		for calls := range 2 {
			for k := -1; k <= api.SlotSize+1; k++ {
				crashWithinSave(t, serial, calls, k)
			}
		}
	}
}

func crashWithinSave(t *testing.T, serial uint64, calls, k int) {
	t.Helper()
	d := newDisk(t)
	was, err := api.Head{}, api.ErrHead // of Serial 0: no head yet
	for s := max(serial, 3) - 3; s < serial; s++ {
		was, err = save(t, d, of(s, 10*s, uint8(s%2))), api.OK
	}
	zero, one := d.Head(0), d.Head(1)
	now := of(serial+1, lastSerial-serial, uint8(serial/2%2))
	d.Fuse(calls, 0)
	if h, e := head.Save(d, of(serial, now.Epoch, now.Live)); h != (api.Head{}) || e != api.ErrDead {
		t.Fatalf("Save with a fuse of %d: %v, error %d; want nothing, ErrDead", calls, h, e)
	}
	wantLoad(t, "of a disk that died within Save", d, api.Head{}, api.ErrDead)
	d.Crash([4]int{0, 0, k, k})
	if calls == 0 {
		wantSlots(t, "killed within Write", d, zero, one)
		wantLoad(t, "killed within Write", d, was, err)
	}
	got, e := head.Load(d)
	isWas, isNow := got == was && e == err, got == now && e == api.OK
	if !isWas && !isNow || k <= 0 && !isWas || calls == 1 && k >= api.SlotSize && !isNow {
		t.Fatalf("behind %v, %v with a fuse of %d, %d bytes kept: %v, error %d", was, now, calls, k, got, e)
	}
	// What is left goes on.
	if next := of(got.Serial, 77, 1); next.Serial != lastSerial {
		wantLoad(t, "behind the next Save", d, save(t, d, next), api.OK)
	}
}

// TestManyCrashes saves and crashes by turns that are drawn: what is loaded is what was last told, or what was under way.
func TestManyCrashes(t *testing.T) {
	r := chance()
	for range 300 {
		d := newDisk(t)
		told := save(t, d, of(r.Uint64()>>r.IntN(64)&^1, 0, 0))
		for range 60 {
			next := of(told.Serial, r.Uint64()>>r.IntN(64), uint8(r.IntN(2)))
			if next.Serial == lastSerial {
				break
			}
			if r.IntN(3) > 0 {
				told = save(t, d, next)
				continue
			}
			d.Fuse(r.IntN(2), r.IntN(40))
			if _, e := head.Save(d, next); e != api.ErrDead {
				t.Fatalf("Save: error %d, want ErrDead", e)
			}
			d.Crash([4]int{0, 0, r.IntN(35) - 1, r.IntN(35) - 1})
			got, e := head.Load(d)
			next.Serial++
			if e != api.OK || got != told && got != next {
				t.Fatalf("Load: %v, error %d; want %v or %v", got, e, told, next)
			}
			told = got
		}
	}
}

// The chapter's examples

func TestExamples(t *testing.T) {
	h := of(3, 1, 1)
	want := []byte{3, 0, 0, 0, 0, 0, 0, 0, 1, 0, 0, 0, 0, 0, 0, 0, 1, 0, 0, 0, 0, 0, 0, 0, 3, 0, 0, 0, 0, 0, 0, 0}
	b, e := head.Bytes(h)
	if !bytes.Equal(b, want) || e != api.OK {
		t.Errorf("Bytes: %v, error %d", b, e)
	}
	wantRead(t, "these", want, h, true)
	wantPick(t, "2 and 3", written(of(2, 0, 0)), want, h, true)
	wantPick(t, "3 in the slot 0", want, nil, api.Head{}, false)
	wantPick(t, "3 in the slot 0, and 1", want, written(of(1, 0, 0)), of(1, 0, 0), true)

	d := newDisk(t)
	wantLoad(t, "of a new disk", d, api.Head{}, api.ErrHead)
	if got := save(t, d, api.Head{}); got != of(1, 0, 0) {
		t.Errorf("Save: %v", got)
	}
	wantSlots(t, "Serial 1", d, blank(), written(of(1, 0, 0)))
	wantLoad(t, "that", d, of(1, 0, 0), api.OK)
}
