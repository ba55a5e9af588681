package op

import (
	"math"

	"foreman/api"
	"foreman/frag"
	"foreman/value"
	"foreman/wire"
)

// Bytes is the bytes of an operation of a right form.
func Bytes(o api.Op) ([]byte, api.Errno) {
	if !Right(o) {
		return nil, api.ErrArg
	}
	return said(o), api.OK
}

// Parse is the operation of a right form that b is the bytes of.
func Parse(b []byte) (api.Op, api.Errno) {
	r := reader{left: b}
	o := r.op()
	if r.broken || len(r.left) > 0 || !Right(o) {
		return api.Op{}, api.ErrRecord
	}
	return o, api.OK
}

func said(o api.Op) []byte {
	has := of(o.What)
	b := wire.Num(nil, int64(o.What))
	if has.has(theID) {
		b = wire.Text(b, o.ID)
	}
	if has.has(theToken) {
		b = wire.Num(b, o.Token)
	}
	if has.has(theValue) {
		b = value.Put(b, o.Value)
	}
	if has.has(theFrag) {
		b = frag.Put(b, o.Frag)
	}
	if has.has(theQuota) {
		b = wire.Num(b, int64(o.Quota))
	}
	return b
}

// reader takes an operation off the bytes that are left, part by part. Once it is broken nothing that it has taken counts, so that only the whole need ask.
type reader struct {
	left   []byte
	broken bool
}

// op takes an operation that has what is of its kind; whether this is right is not asked here.
func (r *reader) op() api.Op {
	o := api.Op{What: uint8(r.number(int64(api.OpCancel)))}
	has := of(o.What)
	if has.has(theID) {
		o.ID = take(r, text)
	}
	if has.has(theToken) {
		o.Token = r.number(math.MaxInt64)
	}
	if has.has(theValue) {
		o.Value = take(r, value.Take)
	}
	if has.has(theFrag) {
		o.Frag = take(r, frag.Take)
	}
	if has.has(theQuota) {
		o.Quota = int(r.number(api.MaxQuota))
	}
	return o
}

// number takes a number from 0 to most.
func (r *reader) number(most int64) int64 {
	n := take(r, wire.TakeNum)
	if n < 0 || n > most {
		r.broken = true
		return 0
	}
	return n
}

// take takes something off by one; if there is none, nothing is left, and so nothing more is taken.
func take[T any](r *reader, one func([]byte) (T, []byte, api.Errno)) T {
	x, behind, e := one(r.left)
	r.left = behind
	r.broken = r.broken || e != api.OK
	return x
}

func text(b []byte) (string, []byte, api.Errno) {
	return wire.TakeText(b, api.MaxID)
}
