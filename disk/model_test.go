package disk_test

import (
	"bytes"
	"fmt"
	"math/rand/v2"
	"testing"

	"foreman/api"
	"foreman/disk"
)

// model is the chapter's words, said as plainly as can be: what is safe, and what is loose, stand apart.
type model struct {
	capacity    int
	safe, loose [2][]byte
	slot        [2][]byte
	written     [2][]byte // nil: not written since
	fused       bool
	calls, part int
	dead        bool
}

func newModel(capacity int) *model {
	return &model{capacity: capacity, slot: [2][]byte{blank(), blank()}}
}

func join(a, b []byte) []byte { return append(append([]byte{}, a...), b...) }

func first(b []byte, n int) []byte { return b[:min(max(n, 0), len(b))] }

func (m *model) read(seg int) []byte { return join(m.safe[seg], m.loose[seg]) }

func (m *model) head(slot int) []byte {
	if m.written[slot] != nil {
		return m.written[slot]
	}
	return m.slot[slot]
}

func (m *model) free() int { return m.capacity - len(m.read(0)) - len(m.read(1)) }

// killed is whether this call, which has no other error, kills the disk.
func (m *model) killed() bool {
	if m.fused && m.calls == 0 {
		m.dead = true
		return true
	}
	m.calls--
	return false
}

func (m *model) append(seg int, b []byte) api.Errno {
	switch {
	case m.dead:
		return api.ErrDead
	case seg != 0 && seg != 1:
		return api.ErrArg
	case len(b) > m.free():
		return api.ErrFull
	case m.killed():
		m.loose[seg] = join(m.loose[seg], first(b, m.part))
		return api.ErrDead
	}
	m.loose[seg] = join(m.loose[seg], b)
	return api.OK
}

func (m *model) sync(seg int) api.Errno {
	switch {
	case m.dead:
		return api.ErrDead
	case seg != 0 && seg != 1:
		return api.ErrArg
	case m.killed():
		return api.ErrDead
	}
	m.safe[seg], m.loose[seg] = m.read(seg), nil
	return api.OK
}

func (m *model) truncate(seg, n int) api.Errno {
	switch {
	case m.dead:
		return api.ErrDead
	case seg != 0 && seg != 1 || n < 0 || n > len(m.read(seg)):
		return api.ErrArg
	case m.killed():
		return api.ErrDead
	}
	m.loose[seg] = first(m.loose[seg], n-len(m.safe[seg]))
	m.safe[seg] = first(m.safe[seg], n)
	return api.OK
}

func (m *model) write(slot int, b []byte) api.Errno {
	switch {
	case m.dead:
		return api.ErrDead
	case slot != 0 && slot != 1 || len(b) != 32:
		return api.ErrArg
	case m.killed():
		return api.ErrDead
	}
	m.written[slot] = join(b, nil)
	return api.OK
}

func (m *model) syncHead() api.Errno {
	switch {
	case m.dead:
		return api.ErrDead
	case m.killed():
		return api.ErrDead
	}
	for i := range 2 {
		m.slot[i], m.written[i] = m.head(i), nil
	}
	return api.OK
}

func (m *model) fuse(calls, part int) {
	if !m.dead {
		m.fused, m.calls, m.part = calls >= 0, calls, part
	}
}

func (m *model) crash(keep [4]int) {
	for i := range 2 {
		m.safe[i], m.loose[i] = join(m.safe[i], first(m.loose[i], keep[i])), nil
		top := first(m.written[i], keep[2+i])
		m.slot[i], m.written[i] = join(top, m.slot[i][len(top):]), nil
	}
	m.dead, m.fused = false, false
}

// act is a call, done by the disk and by the model.
type act struct {
	name string
	disk func(d *disk.Disk) api.Errno
	old  func(m *model) api.Errno
}

func doAppend(seg int, b []byte) act {
	return act{fmt.Sprintf("Append(%d, %v)", seg, b),
		func(d *disk.Disk) api.Errno { return d.Append(seg, b) },
		func(m *model) api.Errno { return m.append(seg, b) }}
}

func doSync(seg int) act {
	return act{fmt.Sprintf("Sync(%d)", seg),
		func(d *disk.Disk) api.Errno { return d.Sync(seg) },
		func(m *model) api.Errno { return m.sync(seg) }}
}

func doTruncate(seg, n int) act {
	return act{fmt.Sprintf("Truncate(%d, %d)", seg, n),
		func(d *disk.Disk) api.Errno { return d.Truncate(seg, n) },
		func(m *model) api.Errno { return m.truncate(seg, n) }}
}

func doWrite(slot int, b []byte) act {
	return act{fmt.Sprintf("Write(%d, %v)", slot, b),
		func(d *disk.Disk) api.Errno { return d.Write(slot, b) },
		func(m *model) api.Errno { return m.write(slot, b) }}
}

func doSyncHead() act {
	return act{"SyncHead()",
		func(d *disk.Disk) api.Errno { return d.SyncHead() },
		func(m *model) api.Errno { return m.syncHead() }}
}

func doFuse(calls, part int) act {
	return act{fmt.Sprintf("Fuse(%d, %d)", calls, part),
		func(d *disk.Disk) api.Errno { d.Fuse(calls, part); return api.OK },
		func(m *model) api.Errno { m.fuse(calls, part); return api.OK }}
}

func doCrash(keep [4]int) act {
	return act{fmt.Sprintf("Crash(%v)", keep),
		func(d *disk.Disk) api.Errno { d.Crash(keep); return api.OK },
		func(m *model) api.Errno { m.crash(keep); return api.OK }}
}

// differ is what the disk tells otherwise than the model.
func differ(d *disk.Disk, m *model) string {
	if d.Dead() != m.dead {
		return fmt.Sprintf("Dead: %v", d.Dead())
	}
	free := 0
	if !m.dead {
		free = m.free()
	}
	if d.Free() != free {
		return fmt.Sprintf("Free: %d, want %d", d.Free(), free)
	}
	for i := range 2 {
		var seg, head []byte
		if !m.dead {
			seg, head = m.read(i), m.head(i)
		}
		if got := d.Read(i); !bytes.Equal(got, seg) {
			return fmt.Sprintf("Read(%d): %v, want %v", i, got, seg)
		}
		if got := d.Head(i); !bytes.Equal(got, head) {
			return fmt.Sprintf("Head(%d): %v, want %v", i, got, head)
		}
	}
	return ""
}

// play does the acts, and holds the disk against the model behind each.
func play(t *testing.T, capacity int, acts []act) {
	t.Helper()
	d, m := newDisk(t, capacity), newModel(capacity)
	for i, a := range acts {
		got, want := a.disk(d), a.old(m)
		bad := differ(d, m)
		if got != want {
			bad = fmt.Sprintf("error %d, want %d", got, want)
		}
		if bad == "" {
			continue
		}
		for _, b := range acts[:i+1] {
			t.Log(b.name)
		}
		t.Fatal(bad)
	}
}

// TestShortRuns plays all runs of a few calls, and tells by a crash what of it was safe.
func TestShortRuns(t *testing.T) {
	calls := []act{
		doAppend(0, []byte{1, 2}), doAppend(1, []byte{3}), doAppend(0, nil), doAppend(0, []byte{4, 5, 6, 7}),
		doSync(0), doSync(1),
		doTruncate(0, 0), doTruncate(0, 1), doTruncate(0, 3), doTruncate(1, 0),
		doWrite(0, full(1)), doWrite(1, full(60)), doSyncHead(),
		doFuse(0, 1), doFuse(1, 0), doFuse(2, 9), doFuse(-1, 3),
		doCrash(keepNone), doCrash([4]int{1, 0, 4, 0}), doCrash(keepAll),
	}
	ends := [][4]int{keepNone, keepAll, {1, 2, 3, 4}}
	for _, a := range calls {
		for _, b := range calls {
			for _, c := range calls {
				for _, keep := range ends {
					play(t, 5, []act{a, b, c, doCrash(keep)})
				}
			}
		}
	}
}

func anyBytes(r *rand.Rand, n int) []byte {
	b := make([]byte, n)
	for i := range b {
		b[i] = byte(r.IntN(256))
	}
	return b
}

func anyAct(r *rand.Rand) act {
	which := func() int { return r.IntN(2) + r.IntN(30)/29*3 } // seldom one that is none
	switch r.IntN(13) {
	case 0, 1, 2, 3:
		return doAppend(which(), anyBytes(r, r.IntN(9)))
	case 4, 5:
		return doSync(which())
	case 6:
		return doTruncate(which(), r.IntN(22)-1)
	case 7, 8:
		return doWrite(which(), anyBytes(r, 32+r.IntN(12)/11))
	case 9, 10:
		return doSyncHead()
	case 11:
		return doFuse(r.IntN(8)-1, r.IntN(10)-1)
	}
	return doCrash([4]int{r.IntN(12) - 1, r.IntN(12) - 1, r.IntN(35) - 1, r.IntN(35) - 1})
}

// TestLongRuns plays runs of calls that are drawn, always the same ones.
func TestLongRuns(t *testing.T) {
	r := rand.New(rand.NewPCG(1, 2))
	for range 3000 {
		acts := make([]act, 60)
		for i := range acts {
			acts[i] = anyAct(r)
		}
		play(t, r.IntN(40), acts)
	}
}
