package value

import (
	"slices"

	"foreman/api"
	"foreman/wire"
)

// Put is b's bytes, and those of a right value behind them; of another value nothing is put.
func Put(b []byte, v api.Value) []byte {
	behind, _ := Bytes(v)
	return slices.Concat(b, behind)
}

// Bytes is a right value's bytes.
func Bytes(v api.Value) ([]byte, api.Errno) {
	if !Right(v) {
		return nil, api.ErrArg
	}
	return said(nil, v), api.OK
}

// Take is the right value that b begins with, and what is behind its bytes.
func Take(b []byte) (v api.Value, behind []byte, e api.Errno) {
	defer func() {
		if recover() != nil {
			e = api.ErrRecord // the other results are not set yet, so they are zero
		}
	}()
	r := reader{left: b}
	v = r.value(1)
	return v, r.left, api.OK
}

// Parse is the right value that b is the bytes of.
func Parse(b []byte) (api.Value, api.Errno) {
	v, behind, e := Take(b)
	if e != api.OK || len(behind) > 0 {
		return api.Value{}, api.ErrRecord
	}
	return v, api.OK
}

// said puts a right value's bytes behind b's, and into b's room, if there is enough.
func said(b []byte, v api.Value) []byte {
	b = append(b, wire.Num(nil, int64(v.Kind))...)
	switch v.Kind {
	case api.ValNumber:
		return append(b, wire.Num(nil, v.N)...)
	case api.ValText:
		return append(b, wire.Text(nil, v.S)...)
	}
	b = append(b, wire.Num(nil, int64(len(v.L)))...)
	for _, one := range v.L {
		b = said(b, one)
	}
	return b
}

// reader takes a value off the bytes that are left. What can't be read it leaves by a panic, however deep in the value it is.
type reader struct {
	left  []byte
	parts int
}

// need leaves what is read, unless what it needs is so.
func need(so bool) {
	if !so {
		panic(api.ErrRecord)
	}
}

// value takes a value that is so deep in the whole one. That there are not too many, nor any too deep, is asked ahead of reading on, so that bytes which say more cost no more.
func (r *reader) value(deep int) api.Value {
	r.parts++
	need(mayBe(deep, r.parts))
	switch r.number() {
	case int64(api.ValNumber):
		return api.Value{Kind: api.ValNumber, N: r.number()}
	case int64(api.ValText):
		return api.Value{Kind: api.ValText, S: r.text()}
	case int64(api.ValList):
		return api.Value{Kind: api.ValList, L: r.list(deep + 1)}
	}
	panic(api.ErrRecord)
}

func (r *reader) number() int64 {
	n, behind, e := wire.TakeNum(r.left)
	need(e == api.OK)
	r.left = behind
	return n
}

func (r *reader) text() string {
	s, behind, e := wire.TakeText(r.left, api.MaxText)
	need(e == api.OK)
	r.left = behind
	return s
}

// list takes a list, and all that is in it, which is so deep in the whole value.
func (r *reader) list(deep int) []api.Value {
	long := r.number()
	need(long >= 0 && long <= api.MaxList)
	var l []api.Value
	for range long {
		l = append(l, r.value(deep))
	}
	return l
}
