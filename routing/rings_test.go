package routing_test

import (
	"math/bits"
	"math/rand/v2"
	"slices"
	"testing"

	"tontine/api"
	"tontine/ring"
	"tontine/routing"
)

const (
	mostNodes = 64
	// Four fingers reach 8 nodes ahead at most. So from 41 nodes on, one that is 40 ahead is 8 hops away, more than P13.4 gives; from 57 on, one that is 56 ahead is 10 hops away, more than a lookup may take.
	mostBounded = 40
	mostLookups = 56
)

// circle is a ring of nodes, from the least position on, with their tables.
type circle struct {
	t      *testing.T
	r      *rand.Rand
	peers  []api.Peer
	tables map[int]*routing.Table
}

// ways is in how many ways the positions of a ring are drawn: far from each other, near to each other round the end, or so that most differ in one half.
const ways = 4

func (c *circle) pos(way int) api.Pos {
	switch way {
	case 0:
		return api.Pos{Hi: c.r.Uint64(), Lo: c.r.Uint64()}
	case 1:
		return distance(at(50), at(uint64(c.r.IntN(100))))
	case 2:
		return api.Pos{Hi: c.r.Uint64(), Lo: uint64(c.r.IntN(2)) - 1}
	}
	return api.Pos{Hi: uint64(c.r.IntN(3)) - 1, Lo: c.r.Uint64()}
}

// circleOf is a ring of so many nodes, each of which knows its neighbours.
func circleOf(t *testing.T, seed uint64, n int) *circle {
	c := &circle{t: t, r: rand.New(rand.NewPCG(13, seed)), tables: map[int]*routing.Table{}}
	way := int(seed) % ways
	for _, node := range c.r.Perm(lastNode + 1)[:n] {
		pos := c.pos(way)
		for slices.ContainsFunc(c.peers, func(p api.Peer) bool { return p.Pos == pos }) {
			pos = next(pos)
		}
		c.peers = append(c.peers, api.Peer{Node: node, Pos: pos})
	}
	slices.SortFunc(c.peers, func(a, b api.Peer) int {
		if nearer(a.Pos, b.Pos) {
			return -1
		}
		return 1
	})
	for i, self := range c.peers {
		c.tables[self.Node] = made(t, self, c.peers[(i+n-1)%n], c.peers[(i+1)%n])
	}
	return c
}

// learn lets each node learn its fingers in turn, each from the finger ahead of it.
func (c *circle) learn() {
	c.t.Helper()
	for i := 1; i <= 3; i++ {
		for _, k := range c.r.Perm(len(c.peers)) {
			x := c.tables[c.peers[k].Node]
			if fingers := x.Fingers(); len(fingers) >= i {
				learns(c.t, x, i, c.tables[fingers[i-1].Node].Fingers()...)
			} else {
				mayNotLearn(c.t, x, i)
			}
		}
	}
}

// fingersHold holds the fingers of each node against the nodes 1, 2, 4 and 8 behind it.
func (c *circle) fingersHold() {
	c.t.Helper()
	n := len(c.peers)
	for k, self := range c.peers {
		var want []api.Peer
		for i := 1; i < n && len(want) < mostFingers; i *= 2 {
			want = append(want, c.peers[(k+i)%n])
		}
		fingersAre(c.t, c.tables[self.Node], want...)
	}
}

// targets are positions of which a node is the owner: both ends of them, and some in between.
func (c *circle) targets(k int) []api.Pos {
	n := len(c.peers)
	pred, self := c.peers[(k+n-1)%n].Pos, c.peers[k].Pos
	l := []api.Pos{self, next(pred)}
	if n == 1 {
		return append(l, pred, before(pred), c.pos(0))
	}
	if p := before(self); p != pred {
		l = append(l, p)
	}
	for range 5 {
		if p := c.pos(0); isBetween(pred, p, self) {
			l = append(l, p)
		}
	}
	return l
}

// hopsTo is how many hops lead from a node to the owner so many nodes ahead, by the words: all but the last one go as far as a finger reaches, but not to the owner.
func hopsTo(ahead int) int {
	passed := max(0, ahead-1)
	return passed/8 + bits.OnesCount(uint(passed%8)) + 1
}

// bound is that of P13.4.
func bound(n int) int { return bits.Len(uint(n-1)) + 1 }

// lookups takes each lookup from each node, by steps and by messages.
func (c *circle) lookups() {
	c.t.Helper()
	n := len(c.peers)
	for k, owner := range c.peers {
		for _, target := range c.targets(k) {
			for s, start := range c.peers {
				hops := c.lookup(start, target, owner)
				if hops != hopsTo((k-s+n)%n) || n <= mostBounded && hops > bound(n) {
					c.t.Fatalf("%d nodes, from %d to %d: %d hops", n, s, k, hops)
				}
				c.send(start, target, owner, hops)
			}
		}
	}
}

// lookup goes from node to node, till one of them names the owner.
func (c *circle) lookup(at api.Peer, target api.Pos, owner api.Peer) int {
	c.t.Helper()
	for hops := 1; hops <= len(c.peers); hops++ {
		p, is, e := c.tables[at.Node].Step(target)
		if e != api.OK || is && p != owner {
			c.t.Fatalf("%v: Step(%v) at %v: %v, %d, want %v", c.peers, target, at, p, e, owner)
		}
		if is {
			return hops
		}
		at = p
	}
	c.t.Fatalf("%v: %v is not found", c.peers, target)
	return 0
}

// send goes the same way by messages, from a node to itself at first.
func (c *circle) send(start api.Peer, target api.Pos, owner api.Peer, hops int) {
	c.t.Helper()
	id := c.r.Uint64()
	m := look(start.Node, start.Node, target, id, 0)
	e := api.OK
	for m.Kind == api.MsgLook {
		last := m
		m, e = c.tables[m.To].Handle(m)
		if m.Kind != api.MsgNone && (m.From != last.To || m.Pos != target || m.ID != id) {
			c.t.Fatalf("Handle(%+v): %+v", last, m)
		}
	}
	switch {
	case hops-1 > mostHops:
		if e != api.ErrRouteHops || len(c.peers) <= mostLookups {
			c.t.Fatalf("%d nodes: %+v, %d behind %d hops", len(c.peers), m, e, hops)
		}
	case e != api.OK || m.Kind != api.MsgFound || m.To != int(id&255) || m.Hops != hops-1 || !slices.Equal(m.Peers, []api.Peer{owner}):
		c.t.Fatalf("%d nodes: %+v, %d, want %v behind %d hops", len(c.peers), m, e, owner, hops)
	}
}

// walk goes from the owner of a position to that of another one, and tells whom it visits.
func (c *circle) walk(at api.Peer, to api.Pos) []api.Peer {
	visited := []api.Peer{at}
	for range len(c.peers) {
		p, last := c.tables[at.Node].Walk(to)
		if last {
			if p != at {
				c.t.Fatalf("Walk(%v) at %v: %v", to, at, p)
			}
			return visited
		}
		at = p
		visited = append(visited, at)
	}
	c.t.Fatalf("%v: the walk to %v has no end: %v", c.peers, to, visited)
	return nil
}

// walks holds the walks between all pairs of owners against the nodes from the one to the other.
func (c *circle) walks() {
	n := len(c.peers)
	round := slices.Concat(c.peers, c.peers)
	for s := range n {
		for k := range n {
			for _, to := range c.targets((s + k) % n) {
				if got := c.walk(round[s], to); !slices.Equal(got, round[s:s+k+1]) {
					c.t.Fatalf("the walk from %v to %v visits %v, want %v", round[s], to, got, round[s:s+k+1])
				}
			}
		}
	}
}

// Every lookup from each node finds the owner, within the bound; the hops are those that the words give (P13.4).
func TestLookupsInRings(t *testing.T) {
	for n := 1; n <= mostNodes; n++ {
		for k := range 2 * ways {
			c := circleOf(t, uint64(n*100+k), n)
			c.learn()
			c.fingersHold()
			c.lookups()
		}
	}
}

// How many nodes the hops of four fingers keep the bound of the promise for, and for how many a lookup comes to its end.
func TestBoundOfLookups(t *testing.T) {
	for n, want := range map[int]int{1: 1, 2: 2, 3: 3, 4: 3, 5: 4, 8: 4, 9: 5, 12: 5, 16: 5, 17: 6, 32: 6, 33: 7, 64: 7} {
		if bound(n) != want {
			t.Errorf("the bound of %d nodes: %d", n, bound(n))
		}
	}
	for n := 1; n <= mostNodes; n++ {
		longest := 0
		for ahead := range n {
			longest = max(longest, hopsTo(ahead))
		}
		if (longest <= bound(n)) != (n <= mostBounded) || (longest-1 <= mostHops) != (n <= mostLookups) {
			t.Errorf("%d nodes: %d hops", n, longest)
		}
	}
}

// Nodes that learn once more, also when others have learned all theirs, have the same fingers.
func TestLearningAgain(t *testing.T) {
	for n := 1; n <= 24; n++ {
		c := circleOf(t, uint64(20000+n), n)
		c.learn()
		c.learn()
		c.fingersHold()
		for _, k := range c.r.Perm(n) {
			x := c.tables[c.peers[k].Node]
			for i := 1; i <= 3 && len(x.Fingers()) >= i; i++ {
				learns(t, x, i, c.tables[x.Fingers()[i-1].Node].Fingers()...)
			}
			c.fingersHold()
		}
		c.lookups()
	}
}

// Nodes that have learned some of their fingers, or none, find every owner too; it takes more hops.
func TestLookupsWithFewFingers(t *testing.T) {
	for n := 1; n <= 30; n++ {
		for k := range 10 {
			c := circleOf(t, uint64(30000+n*100+k), n)
			for range c.r.IntN(4 * n) {
				x := c.tables[c.peers[c.r.IntN(n)].Node]
				if fingers := x.Fingers(); len(fingers) > 0 {
					i := 1 + c.r.IntN(min(3, len(fingers)))
					learns(t, x, i, c.tables[fingers[i-1].Node].Fingers()...)
				}
			}
			for o, owner := range c.peers {
				for _, target := range c.targets(o) {
					for _, start := range c.peers {
						c.lookup(start, target, owner)
					}
				}
			}
		}
	}
}

// Walking from the owner of a position to that of another one visits all owners in between, each once (P13.4).
func TestWalksInRings(t *testing.T) {
	for n := 1; n <= 24; n++ {
		for k := range ways {
			c := circleOf(t, uint64(40000+n*100+k), n)
			c.walks()
			c.learn()
			c.walks()
		}
	}
	c := circleOf(t, 50000, mostNodes)
	c.learn()
	c.walks()
}

// Each position has one owner: the table that names itself; all that look for it come to that one.
func TestEachPositionHasOneOwner(t *testing.T) {
	for n := 1; n <= 20; n++ {
		c := circleOf(t, uint64(60000+n), n)
		c.learn()
		for range 200 {
			target := c.pos(c.r.IntN(ways))
			var owners []api.Peer
			for _, self := range c.peers {
				if p, is, _ := c.tables[self.Node].Step(target); is && p == self {
					owners = append(owners, p)
				}
			}
			if len(owners) != 1 {
				t.Fatalf("%v is owned by %v", target, owners)
			}
			for _, self := range c.peers {
				c.lookup(self, target, owners[0])
			}
		}
	}
}

// Tables may be made of what nodes know that have joined a ring; the ring and the table agree on what is their own.
func TestTablesOfNodesThatHaveJoined(t *testing.T) {
	for n := 1; n <= 12; n++ {
		c := circleOf(t, uint64(70000+n), n)
		nodes := map[int]*ring.Ring{}
		first := c.peers[c.r.IntN(n)].Node
		for _, self := range c.peers {
			nodes[self.Node], _ = ring.New(self)
			if self.Node != first {
				nodes[self.Node].Join(first)
			}
		}
		for range 3*n + 5 {
			for _, self := range c.peers {
				for l := nodes[self.Node].Stabilise(); len(l) > 0; {
					out, _ := nodes[l[0].To].Handle(l[0])
					l = append(l[1:], out...)
				}
			}
		}
		for _, self := range c.peers {
			r := nodes[self.Node]
			pred, ok := r.Pred()
			if !ok {
				pred = self
			}
			c.tables[self.Node] = made(t, self, pred, r.Succs()[0])
		}
		c.learn()
		c.fingersHold()
		c.lookups()
		for range 100 {
			p := c.pos(c.r.IntN(ways))
			for _, self := range c.peers {
				if _, own := c.tables[self.Node].Walk(p); own != nodes[self.Node].Owns(p) {
					t.Errorf("Owns(%v) at %v: %t", p, self, !own)
				}
			}
		}
	}
}
