package ring_test

import (
	"math/rand/v2"
	"slices"
	"testing"

	"tontine/api"
	"tontine/ring"
)

// world is nodes, the messages between them that have not arrived, and the chance by which these are taken.
type world struct {
	t     *testing.T
	r     *rand.Rand
	at    map[int]api.Peer
	nodes map[int]*ring.Ring
	bag   []api.Msg
}

func worldOf(t *testing.T, seed uint64) *world {
	return &world{t: t, r: rand.New(rand.NewPCG(12, seed)), at: map[int]api.Peer{}, nodes: map[int]*ring.Ring{}}
}

// place is a node that is alone so far, at a position that no other one has.
func (w *world) place(node int, pos api.Pos) *ring.Ring {
	for slices.ContainsFunc(w.order(), func(p api.Peer) bool { return p.Pos == pos }) {
		pos = next(pos)
	}
	self := api.Peer{Node: node, Pos: pos}
	r := made(w.t, self)
	w.at[node], w.nodes[node] = self, r
	return r
}

// order is the nodes as they stand, from the least position on.
func (w *world) order() []api.Peer {
	var l []api.Peer
	for node := range w.nodes {
		l = append(l, w.at[node])
	}
	slices.SortFunc(l, func(a, b api.Peer) int {
		if nearer(a.Pos, b.Pos) {
			return -1
		}
		return 1
	})
	return l
}

// arrive brings one of the messages that are under way; those to nodes that are gone are lost.
func (w *world) arrive() {
	i := w.r.IntN(len(w.bag))
	m := w.bag[i]
	w.bag[i] = w.bag[len(w.bag)-1]
	w.bag = w.bag[:len(w.bag)-1]
	r := w.nodes[m.To]
	if r == nil {
		return
	}
	out, e := r.Handle(m)
	if e != api.OK {
		w.t.Fatalf("Handle(%s): %d", short(m), e)
	}
	w.bag = append(w.bag, out...)
}

// quiet lets all messages arrive, and those that they lead to.
func (w *world) quiet() {
	for n := 0; len(w.bag) > 0; n++ {
		if n > 100000 {
			w.t.Fatal("the messages have no end")
		}
		w.arrive()
	}
}

// round lets every node stabilise and all messages arrive, some of them before others stabilise.
func (w *world) round() {
	l := w.order()
	w.r.Shuffle(len(l), func(i, j int) { l[i], l[j] = l[j], l[i] })
	early := w.r.IntN(3)
	for _, p := range l {
		w.bag = append(w.bag, w.nodes[p.Node].Stabilise()...)
		for len(w.bag) > 0 && w.r.IntN(3) < early {
			w.arrive()
		}
	}
	w.quiet()
}

// forms takes as many rounds as the promise gives, and holds that the ring is there, and stays.
func (w *world) forms() {
	w.t.Helper()
	for range 3*len(w.nodes) + 5 {
		w.round()
	}
	w.holds()
	w.round()
	w.holds()
}

// holds holds what each node knows against the order of the nodes.
func (w *world) holds() {
	w.t.Helper()
	l := w.order()
	for i, self := range l {
		r := w.nodes[self.Node]
		if len(l) == 1 {
			knowsNoPred(w.t, r, self)
			break
		}
		behind := slices.Concat(l[i+1:], l[:i])
		knows(w.t, r, behind[len(behind)-1], behind[:min(mostSuccs, len(behind))]...)
		for _, p := range l {
			owns(w.t, r, p == self, p.Pos)
		}
		owns(w.t, r, false, next(self.Pos))
	}
	if w.t.Failed() {
		w.t.Fatalf("%d nodes: %v", len(l), l)
	}
}

// pos draws a position: far from others, near to others, or round the end.
func (w *world) pos(how int) api.Pos {
	switch how {
	case 0:
		return api.Pos{Hi: w.r.Uint64(), Lo: w.r.Uint64()}
	case 1:
		return at(uint64(w.r.IntN(60)))
	case 2:
		return api.Pos{Hi: uint64(w.r.IntN(4)) - 2, Lo: uint64(w.r.IntN(30)) - 15}
	}
	return api.Pos{Hi: w.r.Uint64()}
}

// joinedOne is a node that has joined; the first one counts as such.
func (w *world) joinedOne(before []int) int {
	for {
		if via := before[w.r.IntN(len(before))]; w.nodes[via].Joined() {
			return via
		}
	}
}

// How nodes join: all by way of the first one at once, or of any that has joined, with messages or rounds in between, or each when the ring before it is there.
const (
	byTheFirst = iota
	byAny
	amidMessages
	amidRounds
	oneByOne
	waysToJoin
)

// grow makes so many nodes join, without the rounds behind that.
func (w *world) grow(n, way int) {
	w.t.Helper()
	numbers := w.r.Perm(lastNode + 1)[:n]
	how := w.r.IntN(4)
	for i, node := range numbers {
		r := w.place(node, w.pos(how))
		if i == 0 {
			continue
		}
		via := numbers[0]
		if way != byTheFirst {
			via = w.joinedOne(numbers[:i])
		}
		out, e := r.Join(via)
		if e != api.OK {
			w.t.Fatalf("Join(%d): %d", via, e)
		}
		w.bag = append(w.bag, out...)
		switch way {
		case amidMessages:
			for len(w.bag) > 0 && w.r.IntN(3) > 0 {
				w.arrive()
			}
		case amidRounds:
			w.round()
		case oneByOne:
			w.forms()
		}
	}
}

// Nodes that join form the ring (P12.5).
func TestNodesThatJoinFormTheRing(t *testing.T) {
	for n := 1; n <= 20; n++ {
		for way := range waysToJoin {
			times := 30
			if way == oneByOne {
				times = 3
			}
			for k := range times {
				w := worldOf(t, uint64(n*10000+way*1000+k))
				w.grow(n, way)
				w.forms()
			}
		}
	}
}

// They join also where they stand in the order of their numbers, or against it.
func TestNodesThatJoinInOrder(t *testing.T) {
	for n := 1; n <= 20; n++ {
		for k := range 20 {
			w := worldOf(t, uint64(900000+n*100+k))
			for i := range n {
				pos := at(uint64(3 * i))
				if k%2 == 1 {
					pos = at(uint64(3 * (n - i)))
				}
				r := w.place(i, pos)
				if i > 0 {
					via := i - 1
					if k%4 < 2 {
						via = 0
					}
					for !w.nodes[via].Joined() {
						w.round()
					}
					out, _ := r.Join(via)
					w.bag = append(w.bag, out...)
				}
			}
			w.forms()
		}
	}
}

// chosen is some nodes of a ring, not all of them and no four adjacent ones.
func (w *world) chosen() []api.Peer {
	l := w.order()
	n := len(l)
	gone := make([]bool, n)
	count := 0
	for range w.r.IntN(2 * n) {
		i := w.r.IntN(n)
		if gone[i] || count == n-1 {
			continue
		}
		row := 1
		for k := 1; k < n && gone[(i+k)%n]; k++ {
			row++
		}
		for k := 1; k < n && gone[(i-k+n)%n]; k++ {
			row++
		}
		if row < 4 {
			gone[i] = true
			count++
		}
	}
	var out []api.Peer
	for i, p := range l {
		if gone[i] {
			out = append(out, p)
		}
	}
	w.r.Shuffle(len(out), func(i, j int) { out[i], out[j] = out[j], out[i] })
	return out
}

// How nodes go: they fail, or leave at once, or some of each, or one leaves when the messages of the other ones have arrived.
const (
	allFail = iota
	allLeave
	someLeave
	leaveInTurn
	waysToGo
)

// lose takes nodes out of the ring; then the other ones suspect them, in any order.
func (w *world) lose(gone []api.Peer, way int) {
	for _, p := range gone {
		if way == allLeave || way == leaveInTurn || way == someLeave && w.r.IntN(2) == 0 {
			w.bag = append(w.bag, w.nodes[p.Node].Leave()...)
		}
		delete(w.nodes, p.Node)
		if way == leaveInTurn {
			w.quiet()
		}
	}
	w.quiet()
	for _, p := range w.order() {
		w.r.Shuffle(len(gone), func(i, j int) { gone[i], gone[j] = gone[j], gone[i] })
		for _, q := range gone {
			w.nodes[p.Node].Suspect(q.Node)
		}
	}
}

// A ring of which nodes leave, or fail such that no four adjacent ones do, is formed again by the others (P12.5).
func TestNodesThatRemainFormTheRing(t *testing.T) {
	for n := 1; n <= 20; n++ {
		for way := range waysToGo {
			for k := range 25 {
				w := worldOf(t, uint64(500000+n*10000+way*1000+k))
				w.grow(n, byAny)
				w.forms()
				for range 2 {
					w.lose(w.chosen(), way)
					w.forms()
				}
			}
		}
	}
}

// Any three adjacent nodes may fail, wherever they stand.
func TestThreeAdjacentNodesFail(t *testing.T) {
	for n := 2; n <= 12; n++ {
		for first := range n {
			for many := 1; many <= min(3, n-1); many++ {
				w := worldOf(t, uint64(700000+n*1000+first*10+many))
				w.grow(n, byTheFirst)
				w.forms()
				l := w.order()
				var gone []api.Peer
				for k := range many {
					gone = append(gone, l[(first+k)%n])
				}
				w.lose(gone, allFail)
				w.forms()
			}
		}
	}
}

// All nodes but one leave, one behind the other, with rounds in between or without.
func TestAllNodesLeaveInTurn(t *testing.T) {
	for n := 1; n <= 12; n++ {
		for k := range 10 {
			w := worldOf(t, uint64(800000+n*100+k))
			w.grow(n, byAny)
			w.forms()
			for len(w.nodes) > 1 {
				l := w.order()
				w.lose([]api.Peer{l[w.r.IntN(len(l))]}, leaveInTurn)
				if k%2 == 0 {
					w.forms()
				}
			}
			w.forms()
		}
	}
}

// A ring may grow, shrink and grow again; those that were gone come back as new ones.
func TestRingsGrowAndShrink(t *testing.T) {
	for k := range 60 {
		w := worldOf(t, uint64(990000+k))
		w.grow(2+w.r.IntN(12), byAny)
		w.forms()
		for range 6 {
			gone := w.chosen()
			w.lose(gone, w.r.IntN(waysToGo))
			w.forms()
			var stay []int
			for _, p := range w.order() {
				stay = append(stay, p.Node)
			}
			for _, p := range gone {
				out, e := w.place(p.Node, w.pos(w.r.IntN(4))).Join(w.joinedOne(stay))
				if e != api.OK {
					t.Fatalf("Join: %d", e)
				}
				w.bag = append(w.bag, out...)
			}
			w.forms()
		}
	}
}
