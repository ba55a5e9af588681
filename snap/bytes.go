package snap

import (
	"math"

	"foreman/api"
	"foreman/op"
	"foreman/value"
	"foreman/wire"
)

// Bytes is the bytes of a state of a right form.
func Bytes(s api.State) ([]byte, api.Errno) {
	if !Right(s) {
		return nil, api.ErrArg
	}
	return said(s), api.OK
}

// Parse is the state of a right form that b is the bytes of.
func Parse(b []byte) (api.State, api.Errno) {
	r := reader{left: b}
	s := r.state()
	if r.broken || len(r.left) > 0 {
		return api.State{}, api.ErrRecord
	}
	return s, api.OK
}

func said(s api.State) []byte {
	var b []byte
	c := s.Config
	for _, n := range []int{c.Quota, c.Depth, c.Width, c.Retry, c.Flows, s.Flows} {
		b = putNumber(b, int64(n))
	}
	b = putNumber(b, s.Token)
	b = putNumber(b, int64(len(s.Nodes)))
	for _, n := range s.Nodes {
		b = putNode(b, n)
	}
	return b
}

// putNode puts a node's bytes behind b's, and into b's room, if there is enough: so a state costs no more than its bytes, however many nodes it has.
func putNode(b []byte, n api.Node) []byte {
	b = append(b, wire.Text(nil, n.ID)...)
	b = append(b, wire.Text(nil, n.Name)...)
	each(n, func(x int64, _ span) { b = putNumber(b, x) })
	v, _ := value.Bytes(n.Value)
	return append(b, v...)
}

func putNumber(b []byte, n int64) []byte {
	return append(b, wire.Num(nil, n)...)
}

// reader takes a state off the bytes that are left, part by part. Once it is broken nothing that it has taken counts, so that only the whole need ask.
type reader struct {
	left   []byte
	broken bool
}

func (r *reader) state() api.State {
	// Calls are made in the order in which they stand, which is that of the bytes.
	s := api.State{
		Config: api.Config{
			Quota: r.upTo(api.MaxQuota),
			Depth: r.upTo(api.MaxDepth),
			Width: r.upTo(api.MaxWidth),
			Retry: r.upTo(api.MaxRetry),
			Flows: r.upTo(api.MaxFlows),
		},
		Flows: r.upTo(api.MaxFlows),
		Token: r.number(span{0, math.MaxInt64}),
	}
	for range r.upTo(api.MaxNodes) {
		if r.broken {
			break // bytes that say more nodes than they have cost no more than what they have
		}
		s.Nodes = append(s.Nodes, r.node())
	}
	return s
}

func (r *reader) node() api.Node {
	id := r.text(api.MaxID, op.ID)
	name := r.text(api.MaxName, nameOrNone)
	n := told(func(may span) int64 { return r.number(may) })
	n.ID, n.Name, n.Value = id, name, take(r, value.Take)
	return n
}

// upTo takes a number from 0 to most.
func (r *reader) upTo(most int64) int {
	return int(r.number(span{0, most}))
}

// number takes a number that may be.
func (r *reader) number(may span) int64 {
	n := take(r, wire.TakeNum)
	if !may.has(n) {
		r.broken = true
		return 0
	}
	return n
}

// text takes a text of at most that many bytes that is right.
func (r *reader) text(most int, right func(string) bool) string {
	s := take(r, func(b []byte) (string, []byte, api.Errno) { return wire.TakeText(b, most) })
	r.broken = r.broken || !right(s)
	return s
}

// take takes something off by one; if there is none, nothing is left, and so nothing more is taken.
func take[T any](r *reader, one func([]byte) (T, []byte, api.Errno)) T {
	x, behind, e := one(r.left)
	r.left = behind
	r.broken = r.broken || e != api.OK
	return x
}
