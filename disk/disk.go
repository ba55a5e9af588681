// Package disk is layer 1: see shared/doc/01-disk.md.
package disk

import (
	"bytes"

	"foreman/api"
)

// Disk is two segments and two slots. It points at itself, so that a copy, which would share the segments' memory, is no disk.
type Disk struct {
	self     *Disk
	capacity int
	segs     [api.Segments]segment
	slots    [api.Slots]headSlot
	fuse     fuse
	dead     bool
}

// fuse is how many more calls are done, and how many bytes stay of the Append that kills.
type fuse struct {
	calls, part int
}

// noFuse is a count that no burning reaches.
const noFuse = -1

// New makes a disk with nothing on it.
func New(capacity int) (*Disk, api.Errno) {
	if capacity < 0 || capacity > api.MaxDisk {
		return nil, api.ErrArg
	}
	d := &Disk{capacity: capacity, fuse: fuse{calls: noFuse}}
	d.self = d
	return d, api.OK
}

func (d *Disk) made() bool {
	return d != nil && d.self == d
}

// fault is the error that each call has ahead of its own ones.
func (d *Disk) fault() api.Errno {
	if !d.made() {
		return api.ErrNil
	}
	if d.dead {
		return api.ErrDead
	}
	return api.OK
}

// change is asked only when a call has no error of its own: others must not burn the fuse.
func (d *Disk) change(do func()) api.Errno {
	if d.fuse.calls == 0 {
		d.dead = true
		return api.ErrDead
	}
	if d.fuse.calls > 0 {
		d.fuse.calls--
	}
	do()
	return api.OK
}

// Append puts loose bytes behind a segment's.
func (d *Disk) Append(seg int, b []byte) api.Errno {
	if e := d.fault(); e != api.OK {
		return e
	}
	if !isSegment(seg) {
		return api.ErrArg
	}
	if len(b) > d.room() {
		return api.ErrFull
	}
	s := &d.segs[seg]
	e := d.change(func() { s.grow(b) })
	if e == api.ErrDead {
		s.grow(b[:between(d.fuse.part, len(b))])
	}
	return e
}

// Sync makes all of a segment safe.
func (d *Disk) Sync(seg int) api.Errno {
	if e := d.fault(); e != api.OK {
		return e
	}
	if !isSegment(seg) {
		return api.ErrArg
	}
	return d.change(func() { d.segs[seg].sync() })
}

// Truncate leaves the first n bytes of a segment, at once.
func (d *Disk) Truncate(seg, n int) api.Errno {
	if e := d.fault(); e != api.OK {
		return e
	}
	if !isSegment(seg) || n < 0 || n > len(d.segs[seg].data) {
		return api.ErrArg
	}
	return d.change(func() { d.segs[seg].cut(n) })
}

// Write puts loose bytes into a slot.
func (d *Disk) Write(slot int, b []byte) api.Errno {
	if e := d.fault(); e != api.OK {
		return e
	}
	if !isSlot(slot) || len(b) != api.SlotSize {
		return api.ErrArg
	}
	return d.change(func() { d.slots[slot].write(b) })
}

// SyncHead makes both slots safe.
func (d *Disk) SyncHead() api.Errno {
	if e := d.fault(); e != api.OK {
		return e
	}
	return d.change(func() {
		for i := range d.slots {
			d.slots[i].sync()
		}
	})
}

// Read tells a segment's bytes, safe and loose.
func (d *Disk) Read(seg int) []byte {
	if d.fault() != api.OK || !isSegment(seg) {
		return nil
	}
	return bytes.Clone(d.segs[seg].data)
}

// Head tells what a slot is read as.
func (d *Disk) Head(slot int) []byte {
	if d.fault() != api.OK || !isSlot(slot) {
		return nil
	}
	return bytes.Clone(d.slots[slot].shown[:])
}

// Free tells how many bytes more the segments may have.
func (d *Disk) Free() int {
	if d.fault() != api.OK {
		return 0
	}
	return d.room()
}

func (d *Disk) room() int {
	room := d.capacity
	for i := range d.segs {
		room -= len(d.segs[i].data)
	}
	return room
}

// Fuse lets so many more calls change something; the next one kills the disk.
func (d *Disk) Fuse(calls, part int) {
	if d.fault() != api.OK {
		return
	}
	d.fuse = fuse{calls: max(calls, noFuse), part: part}
}

// Dead tells whether the disk is dead.
func (d *Disk) Dead() bool {
	return d.fault() == api.ErrDead
}

// Crash leaves what is safe, and of what is loose the first bytes: of the segments 0 and 1, then of the slots 0 and 1.
func (d *Disk) Crash(keep [4]int) {
	if !d.made() {
		return
	}
	for i := range d.segs {
		d.segs[i].crash(keep[i])
	}
	for i := range d.slots {
		d.slots[i].crash(keep[api.Segments+i])
	}
	d.fuse = fuse{calls: noFuse}
	d.dead = false
}

func isSegment(seg int) bool {
	return seg >= 0 && seg < api.Segments
}

func isSlot(slot int) bool {
	return slot >= 0 && slot < api.Slots
}

// between is n, or what of 0 and most is nearer.
func between(n, most int) int {
	return min(max(n, 0), most)
}
