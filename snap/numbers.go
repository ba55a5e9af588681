package snap

import (
	"math"

	"foreman/api"
)

// Where each number of a node stands in the list of them, which is the order in which they are said. Behind how many places the node is after, these are said.
const (
	kind = iota
	flow
	owner
	at
	after
	width
	quota
	stand
	fails
	token
	many // so many stand in the list
)

const (
	lastKind  = int64(api.KindEach)
	lastStand = int64(api.Cancelled)
)

// numbers is the list of a node's numbers.
type numbers [many]int64

// span is from what to what a number may be.
type span struct{ least, most int64 }

// spans is what the numbers of a node may be.
var spans = [many]span{
	kind:  {0, lastKind},
	flow:  {0, api.MaxFlows},
	owner: {-1, api.MaxNodes - 1},
	at:    {-1, api.MaxFlowNum},
	after: {0, api.MaxAfter + 1},
	width: {0, api.MaxWidth},
	quota: {0, api.MaxQuota},
	stand: {0, lastStand},
	fails: {0, api.MaxRetry + 1},
	token: {0, math.MaxInt64},
}

// spanOfPlaces is what each of the places that a node is after may be.
var spanOfPlaces = span{0, api.MaxNodes - 1}

func (s span) has(x int64) bool {
	return x >= s.least && x <= s.most
}

func numbersOf(n api.Node) numbers {
	return numbers{
		kind:  int64(n.Kind),
		flow:  int64(n.Flow),
		owner: int64(n.Owner),
		at:    int64(n.At),
		after: int64(len(n.After)),
		width: int64(n.Width),
		quota: int64(n.Quota),
		stand: int64(n.Stand),
		fails: int64(n.Fails),
		token: n.Token,
	}
}

// node is the node that has these numbers, and is after no places.
func (l numbers) node() api.Node {
	return api.Node{
		Kind:  uint8(l[kind]),
		Flow:  int(l[flow]),
		Owner: int(l[owner]),
		At:    int(l[at]),
		Width: int(l[width]),
		Quota: int(l[quota]),
		Stand: uint8(l[stand]),
		Fails: int(l[fails]),
		Token: l[token],
	}
}

// each hands one all numbers of a node, one by one as they are said, and what they may be.
func each(n api.Node, one func(x int64, may span)) {
	for i, x := range numbersOf(n) {
		one(x, spans[i])
		if i == after {
			for _, place := range n.After {
				one(int64(place), spanOfPlaces)
			}
		}
	}
}

// told is the node whose numbers next tells, one by one as they are said, out of what they may be.
func told(next func(may span) int64) api.Node {
	var l numbers
	var places []int
	for i := range l {
		l[i] = next(spans[i])
		if i == after {
			for range l[after] {
				places = append(places, int(next(spanOfPlaces)))
			}
		}
	}
	n := l.node()
	n.After = places
	return n
}

func rightNumbers(n api.Node) bool {
	right := true
	each(n, func(x int64, may span) { right = right && may.has(x) })
	return right
}
