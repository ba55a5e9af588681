package snap_test

import (
	"slices"
	"strings"
	"testing"

	"foreman/api"
	"foreman/snap"
)

func roomyValue(v api.Value) api.Value {
	l := make([]api.Value, 0, len(v.L)+2)
	for _, one := range v.L {
		l = append(l, roomyValue(one))
	}
	v.L = append(l, words("room"), api.Value{Kind: 9})[:len(v.L)]
	return v
}

// roomy is s with spare room behind each of its lists, in which something stands.
func roomy(s api.State) api.State {
	l := make([]api.Node, 0, len(s.Nodes)+2)
	for _, n := range s.Nodes {
		n.After = append(append(make([]int, 0, len(n.After)+2), n.After...), 7, -7)[:len(n.After)]
		n.Value = roomyValue(n.Value)
		l = append(l, n)
	}
	s.Nodes = append(l, nodeX(), api.Node{Kind: 9})[:len(s.Nodes)]
	return s
}

func wholeValue(v api.Value) api.Value {
	v.L = slices.Clone(v.L[:cap(v.L)])
	for i := range v.L {
		v.L[i] = wholeValue(v.L[i])
	}
	return v
}

// whole is s with the spare room of its lists, in memory of its own.
func whole(s api.State) api.State {
	s.Nodes = slices.Clone(s.Nodes[:cap(s.Nodes)])
	for i, n := range s.Nodes {
		s.Nodes[i].After = slices.Clone(n.After[:cap(n.After)])
		s.Nodes[i].Value = wholeValue(n.Value)
	}
	return s
}

func spoilValue(v api.Value) {
	l := v.L[:cap(v.L)]
	for i := range l {
		spoilValue(l[i])
		l[i] = api.Value{Kind: 77, N: 77, S: "spoilt"}
	}
}

// spoil changes all of a state, as far as its lists reach.
func spoil(s api.State) {
	l := s.Nodes[:cap(s.Nodes)]
	for i, n := range l {
		spoilValue(n.Value)
		after := n.After[:cap(n.After)]
		for k := range after {
			after[k] = 777
		}
		l[i] = api.Node{ID: "spoilt", Kind: 77}
	}
}

func fillValue(v api.Value) {
	for _, one := range v.L {
		fillValue(one)
	}
	clear(v.L[len(v.L):cap(v.L)])
}

// fill puts zeros into the spare room of all lists of a state.
func fill(s api.State) {
	for _, n := range s.Nodes {
		clear(n.After[len(n.After):cap(n.After)])
		fillValue(n.Value)
	}
	clear(s.Nodes[len(s.Nodes):cap(s.Nodes)])
}

// P11.1

func wantRight(t *testing.T, s api.State, want bool) {
	t.Helper()
	if isRight(s) != want {
		t.Fatalf("the test's own words: right is %v, want %v: %s", isRight(s), want, brief(s))
	}
	if snap.Right(s) != want || snap.Right(roomy(s)) != want {
		t.Errorf("Right: %v, with spare room %v, want %v: %s", snap.Right(s), snap.Right(roomy(s)), want, brief(s))
	}
}

func TestRightOfRightForms(t *testing.T) {
	for _, s := range rights() {
		wantRight(t, s, true)
	}
}

func TestRightOfOthers(t *testing.T) {
	for _, s := range wrongs() {
		wantRight(t, s, false)
	}
}

func TestRightByNumbersOfAState(t *testing.T) {
	for _, p := range ofState() {
		for _, s := range base() {
			for _, n := range around(p.least, p.most) {
				c := with(s, func(s *api.State) { p.set(s, 0, n) })
				if got := snap.Right(c); got != (n >= p.least && n <= p.most) {
					t.Errorf("Right with %s %d: %v", p.name, n, got)
				}
			}
		}
		for n := -100; n < 500; n++ {
			c := with(api.State{}, func(s *api.State) { p.set(s, 0, n) })
			if got := snap.Right(c); got != (n >= p.least && n <= p.most) {
				t.Errorf("Right with %s %d: %v", p.name, n, got)
			}
		}
	}
}

func TestRightByNumbersOfANode(t *testing.T) {
	for _, p := range ofNodes() {
		for _, s := range base() {
			for at := range s.Nodes {
				for _, n := range around(p.least, p.most) {
					c := with(s, func(s *api.State) { p.set(s, at, n) })
					if got := snap.Right(c); got != (n >= p.least && n <= p.most) {
						t.Errorf("Right with %s %d, of the node at %d of %d: %v", p.name, n, at, len(s.Nodes), got)
					}
				}
			}
		}
		for n := -100; n < 500; n++ {
			c := with(least(), func(s *api.State) { p.set(s, 0, n) })
			if got := snap.Right(c); got != (n >= p.least && n <= p.most) {
				t.Errorf("Right with %s %d: %v", p.name, n, got)
			}
		}
	}
	for _, p := range bytesOfNodes() {
		for n := range 256 {
			c := with(least(), func(s *api.State) { p.set(s, 0, n) })
			if got := snap.Right(c); got != (n <= p.most) {
				t.Errorf("Right with %s %d: %v", p.name, n, got)
			}
		}
	}
}

func TestRightByTexts(t *testing.T) {
	for n := range 1000 {
		for _, c := range []string{"a", "0", "_"} {
			text := strings.Repeat(c, n)
			wantRight(t, with(ordinary(), func(s *api.State) { s.Nodes[1].ID = text }), n >= 1 && n <= 400)
			wantRight(t, with(ordinary(), func(s *api.State) { s.Nodes[1].Name = text }), n <= 20)
		}
	}
	for c := range 256 {
		text := string([]byte{byte(c)})
		wantRight(t, with(ordinary(), func(s *api.State) { s.Nodes[2].ID = text }), c >= 33 && c <= 126)
		wantRight(t, with(ordinary(), func(s *api.State) { s.Nodes[2].Name = text }), nameForm.MatchString(text))
	}
}

func TestRightByHowManyItIsAfter(t *testing.T) {
	for long := range 100 {
		for _, place := range []int{0, 1, 4799} {
			for _, s := range everywhere(ordinary(), func(n *api.Node) { n.After = slices.Repeat([]int{place}, long) }) {
				wantRight(t, s, long <= 21)
			}
		}
	}
	s := ordinary()
	s.Nodes[0].After = make([]int, 1<<20)
	wantRight(t, s, false)
	s.Nodes[0].After = []int{}
	wantRight(t, s, true)
}

func TestRightByHowManyNodes(t *testing.T) {
	for _, many := range []int{0, 1, 100, 4799, 4800, 4801, 4802, 9600, 10000} {
		wantRight(t, nodesOf(many), many <= 4800)
	}
	wantRight(t, api.State{Nodes: []api.Node{}}, true)
	// One of many that is not right, wherever it stands.
	for _, at := range []int{0, 1, 2399, 4798, 4799} {
		s := nodesOf(4800)
		s.Nodes[at].Owner = 4800
		wantRight(t, s, false)
	}
}

// A list that holds itself is no right value, and is not gone into for ever.
func TestAListThatHoldsItself(t *testing.T) {
	v := list(number(1))
	v.L[0] = v
	s := ordinary()
	s.Nodes[2].Value = v
	if snap.Right(s) {
		t.Error("Right, with a list that holds itself: true")
	}
	if b, e := snap.Bytes(s); len(b) != 0 || e != api.ErrArg {
		t.Errorf("Bytes, with a list that holds itself: %d bytes, error %d", len(b), e)
	}
	snap.Same(s, s)
	snap.Copy(s)
	if snap.Same(s, ordinary()) {
		t.Error("Same, with a list that holds itself: true")
	}
}

func wantSame(t *testing.T, a, b api.State, want bool) {
	t.Helper()
	if snap.Same(a, b) != want || snap.Same(b, a) != want {
		t.Errorf("Same: %v, the other way %v, want %v: %s and %s", snap.Same(a, b), snap.Same(b, a), want, brief(a), brief(b))
	}
}

func TestSameOfTheSame(t *testing.T) {
	for _, s := range append(rights(), wrongs()...) {
		wantSame(t, s, s, true)
		wantSame(t, s, plain(s), true)
		wantSame(t, s, roomy(s), true) // what stands in the spare room does not count
	}
	wantSame(t, api.State{}, api.State{Nodes: []api.Node{}}, true)
	wantSame(t, api.State{Nodes: []api.Node{{}}}, api.State{Nodes: []api.Node{{After: []int{}, Value: api.Value{L: []api.Value{}}}}}, true)
	wantSame(t, nodesOf(4801), nodesOf(4801), true)
}

// oddOnes are states of which none is of a right form.
func oddOnes() []api.State {
	n := api.Node{ID: " ", Name: "A", Kind: 200, Flow: -9, Owner: -9, At: -9, After: []int{-9, 1 << 40}, Width: -9, Quota: -9, Stand: 200, Fails: -9, Token: -9, Value: api.Value{Kind: 7, S: "b"}}
	return []api.State{{Nodes: []api.Node{{}}}, {Nodes: []api.Node{n}}, {Config: api.Config{Quota: -9, Depth: 1 << 40}, Flows: -9, Token: -9, Nodes: []api.Node{{}, n}}}
}

func TestSameOfThoseThatDifferInOnePart(t *testing.T) {
	some := append(base(), oddOnes()...)
	r := chance()
	for range 50 {
		some = append(some, drawn(r), small(r))
	}
	for _, s := range some {
		for _, other := range likes(s) {
			wantSame(t, s, other, false)
		}
	}
	for _, at := range []int{0, 1, 2399, 4799} {
		s := nodesOf(4800)
		s.Nodes[at].Token = 1
		wantSame(t, s, nodesOf(4800), false)
	}
	wantSame(t, nodesOf(4800), nodesOf(4799), false)
}

func TestSameOfAnyTwo(t *testing.T) {
	r := chance()
	l := append(base(), oddOnes()...)
	for range 100 {
		l = append(l, drawn(r), small(r))
	}
	all := wrongs()
	for range 100 {
		l = append(l, all[r.IntN(len(all))])
	}
	for i, a := range l {
		for _, b := range l[:i] {
			if got := snap.Same(a, b); got != equal(a, b) {
				t.Errorf("Same: %v: %s and %s", got, brief(a), brief(b))
			}
		}
	}
}

func TestCopyIsTheSame(t *testing.T) {
	for _, s := range slices.Concat(rights(), wrongs(), oddOnes()) {
		for _, given := range []api.State{s, roomy(s)} {
			if c := snap.Copy(given); !equal(c, s) {
				t.Errorf("Copy: %s, of %s", brief(c), brief(s))
			}
		}
	}
	if c := snap.Copy(nodesOf(4801)); !equal(c, nodesOf(4801)) {
		t.Error("Copy of 4801 nodes is another state")
	}
}

func TestCopyIsInMemoryOfItsOwn(t *testing.T) {
	for _, s := range slices.Concat(rights(), wrongs(), oddOnes()) {
		given := roomy(s)
		before := whole(given)
		first, second := snap.Copy(given), snap.Copy(given)
		spoil(first)
		if !equal(whole(given), before) || !equal(second, s) {
			t.Fatalf("a copy shares memory with what was handed in, or with another copy: %s", brief(s))
		}
		spoil(given)
		if !equal(second, s) {
			t.Fatalf("a copy changes with what was handed in: %s", brief(s))
		}
		fill(second)
		if !equal(second, s) {
			t.Fatalf("lists of one copy share memory: %s", brief(s))
		}
	}
}

func TestStatesHandedInStay(t *testing.T) {
	for _, s := range slices.Concat(rights(), wrongs(), oddOnes()) {
		given := roomy(s)
		before := whole(given)
		snap.Right(given)
		snap.Same(given, given)
		snap.Same(given, s)
		snap.Copy(given)
		snap.Bytes(given)
		if !equal(whole(given), before) || !equal(given, s) {
			t.Fatalf("a state that was handed in has changed, or its spare room: %s", brief(s))
		}
	}
}
