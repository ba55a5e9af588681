package frag

import (
	"slices"

	"foreman/api"
	"foreman/wire"
)

// Put is b's bytes, and those of a fragment of a right form behind them; of another fragment nothing is put.
func Put(b []byte, l []api.Item) []byte {
	behind, _ := Bytes(l)
	return slices.Concat(b, behind)
}

// Bytes is the bytes of a fragment of a right form.
func Bytes(l []api.Item) ([]byte, api.Errno) {
	if !Right(l) {
		return nil, api.ErrArg
	}
	return putList(nil, l, putItem), api.OK
}

// Take is the fragment of a right form that b begins with, and what is behind its bytes.
func Take(b []byte) ([]api.Item, []byte, api.Errno) {
	r := reader{left: b}
	l := takeList(&r, api.MaxItems, r.item)
	if r.broken {
		return nil, nil, api.ErrRecord
	}
	return l, r.left, api.OK
}

// Parse is the fragment of a right form that b is the bytes of.
func Parse(b []byte) ([]api.Item, api.Errno) {
	l, behind, e := Take(b)
	if e != api.OK || len(behind) > 0 {
		return nil, api.ErrRecord
	}
	return l, api.OK
}

// putList puts how many l has, and each of these by put, behind b's bytes, and into b's room, if there is enough.
func putList[T any](b []byte, l []T, put func([]byte, T) []byte) []byte {
	b = putNumber(b, len(l))
	for _, one := range l {
		b = put(b, one)
	}
	return b
}

func putItem(b []byte, x api.Item) []byte {
	b = putText(b, x.Name)
	b = putNumber(b, int(x.Kind))
	b = putList(b, x.After, putText)
	b = putNumber(b, x.Quota)
	if x.Kind == api.KindMap {
		b = putText(b, x.Over)
		b = putNumber(b, x.Width)
	}
	return b
}

func putNumber(b []byte, n int) []byte {
	return append(b, wire.Num(nil, int64(n))...)
}

func putText(b []byte, s string) []byte {
	return append(b, wire.Text(nil, s)...)
}

// reader takes a fragment off the bytes that are left, part by part. Once it is broken nothing that it has taken counts, so that only the whole need ask.
type reader struct {
	left   []byte
	broken bool
}

// takeList takes how many there are, which is at most most, and each of these by take.
func takeList[T any](r *reader, most int, take func() T) []T {
	var l []T
	for range r.number(most) {
		l = append(l, take())
	}
	return l
}

func (r *reader) item() api.Item {
	x := api.Item{Name: r.name()}
	x.Kind = uint8(r.number(int(api.KindMap))) // the kinds above it are none of an item
	x.After = takeList(r, api.MaxAfter, r.name)
	x.Quota = r.number(api.MaxQuota)
	if x.Kind == api.KindMap {
		x.Over = r.name()
		x.Width = r.number(api.MaxWidth)
	}
	return x
}

func (r *reader) name() string {
	s, behind, e := wire.TakeText(r.left, api.MaxName)
	if e != api.OK || !Name(s) {
		r.leave()
		return ""
	}
	r.left = behind
	return s
}

// number takes a number from 0 to most.
func (r *reader) number(most int) int {
	n, behind, e := wire.TakeNum(r.left)
	if e != api.OK || n < 0 || n > int64(most) {
		r.leave()
		return 0
	}
	r.left = behind
	return int(n)
}

// leave leaves all that is left: of no bytes nothing more can be taken, and the rest comes to its end at once.
func (r *reader) leave() {
	r.left, r.broken = nil, true
}
