package routing_test

import (
	"math/rand/v2"
	"testing"

	"tontine/api"
)

// All positions of a small ring: which answer each has is told by where the nodes stand.
func TestStepAtEachPosition(t *testing.T) {
	for n := 1; n <= mostFingers; n++ {
		x := knowing(t, n)
		for lo := uint64(0); lo <= 130; lo++ {
			switch {
			case lo > 40 && lo <= 50:
				steps(t, x, at(lo), middle, true)
			case lo > 50 && lo <= 60:
				steps(t, x, at(lo), known[0], true)
			case lo > 60:
				last := min(int(lo-51)/10, n)
				steps(t, x, at(lo), known[last-1], false)
			default:
				steps(t, x, at(lo), known[n-1], false)
			}
			steps(t, x, api.Pos{Hi: 1, Lo: lo}, known[n-1], false)
			steps(t, x, api.Pos{Hi: greatest, Lo: lo}, known[n-1], false)
		}
	}
}

// Walk goes by its own positions alone; fingers do not count.
func TestWalkAtEachPosition(t *testing.T) {
	for n := 1; n <= mostFingers; n++ {
		x := knowing(t, n)
		for lo := uint64(0); lo <= 130; lo++ {
			if lo > 40 && lo <= 50 {
				walks(t, x, at(lo), middle, true)
			} else {
				walks(t, x, at(lo), known[0], false)
			}
			walks(t, x, api.Pos{Hi: 1, Lo: lo}, known[0], false)
			walks(t, x, api.Pos{Hi: greatest, Lo: lo}, known[0], false)
		}
	}
}

// Where the pred is the succ, the ring is two nodes.
func TestStepOfTwoNodes(t *testing.T) {
	for a, one := range positions {
		for b, two := range positions {
			if one == two {
				continue
			}
			self, other := api.Peer{Node: 7, Pos: one}, api.Peer{Node: 9, Pos: two}
			x := made(t, self, other, other)
			learns(t, x, 1, self)
			for p, pos := range positions {
				own := b < p && p <= a
				if a < b {
					own = p > b || p <= a
				}
				if own {
					steps(t, x, pos, self, true)
					walks(t, x, pos, self, true)
				} else {
					steps(t, x, pos, other, true)
					walks(t, x, pos, other, false)
				}
			}
		}
	}
}

// inOrder is Between by where positions stand in their order.
func inOrder(a, x, b int) bool {
	switch {
	case a < b:
		return a < x && x < b
	case a > b:
		return x > a || x < b
	}
	return x != a
}

// All threes of positions for the node and its neighbours, with all positions asked; where they stand in the row tells the answer.
func TestStepOfPositionsInOrder(t *testing.T) {
	for s, self := range positions {
		for p, pred := range positions {
			for f, succ := range positions {
				one, two := api.Peer{Node: 7, Pos: self}, api.Peer{Node: 3, Pos: succ}
				x := made(t, one, api.Peer{Node: 5, Pos: pred}, two)
				for k, target := range positions {
					switch {
					case k == s || inOrder(p, k, s):
						steps(t, x, target, one, true)
						walks(t, x, target, one, true)
					case k == f || inOrder(s, k, f):
						steps(t, x, target, two, true)
						walks(t, x, target, two, false)
					default:
						steps(t, x, target, two, false)
						walks(t, x, target, two, false)
					}
				}
			}
		}
	}
}

// Both sides of each bound, round the end of the ring and elsewhere: the nodes stand apart by Lo, by Hi, or by both.
func TestStepAtTheBounds(t *testing.T) {
	const half = 1 << 63
	for _, pos := range positions {
		pred := api.Peer{Node: 5, Pos: pos}
		for _, gap := range []api.Pos{{Lo: 2}, {Lo: half}, {Hi: 1}, {Hi: 1 << 60}, {Hi: 1, Lo: 2}, {Hi: 1 << 60, Lo: half}} {
			l := []api.Peer{pred}
			for i := range 5 {
				l = append(l, api.Peer{Node: 10 + i, Pos: sum(l[i].Pos, gap)})
			}
			self, succ, second, third, fourth := l[1], l[2], l[3], l[4], l[5]
			x := withFingers(t, pred, self, succ, second, third, fourth)
			steps(t, x, next(pred.Pos), self, true)
			steps(t, x, before(self.Pos), self, true)
			steps(t, x, self.Pos, self, true)
			steps(t, x, next(self.Pos), succ, true)
			steps(t, x, before(succ.Pos), succ, true)
			steps(t, x, succ.Pos, succ, true)
			steps(t, x, next(succ.Pos), succ, false)
			steps(t, x, second.Pos, succ, false)
			steps(t, x, next(second.Pos), second, false)
			steps(t, x, third.Pos, second, false)
			steps(t, x, next(third.Pos), third, false)
			steps(t, x, fourth.Pos, third, false)
			steps(t, x, next(fourth.Pos), fourth, false)
			steps(t, x, before(pred.Pos), fourth, false)
			steps(t, x, pred.Pos, fourth, false)
			walks(t, x, pred.Pos, succ, false)
			walks(t, x, next(pred.Pos), self, true)
			walks(t, x, self.Pos, self, true)
			walks(t, x, next(self.Pos), succ, false)
		}
	}
}

// sum is the position so far up from another one.
func sum(p, by api.Pos) api.Pos { return distance(distance(by, api.Pos{}), p) }

// The last finger that is ahead of the position is told, also where the pred is known to be nearer.
func TestStepTellsALastFinger(t *testing.T) {
	x := withFingers(t, peer(9, 200), peer(1, 250), peer(2, 260), peer(3, 270), peer(4, 280), peer(5, 290))
	steps(t, x, at(200), peer(5, 290), false)
	steps(t, x, at(10), peer(5, 290), false)
	steps(t, x, at(291), peer(5, 290), false)
	steps(t, x, at(290), peer(4, 280), false)
	// A finger may stand behind the pred, if it was told so.
	x = withFingers(t, peer(9, 40), peer(1, 50), peer(2, 60), peer(3, 70), peer(4, 45))
	steps(t, x, at(46), peer(1, 50), true)
	steps(t, x, at(40), peer(3, 70), false)
	steps(t, x, at(71), peer(3, 70), false)
	steps(t, x, at(70), peer(2, 60), false)
	// A finger with the node's own number is told as any other.
	x = withFingers(t, ahead, middle, peer(2, 60), peer(1, 80))
	steps(t, x, at(81), peer(1, 80), false)
	steps(t, x, at(80), peer(2, 60), false)
}

// Where pred or succ stands where the node does, all other positions are between.
func TestStepOfNeighboursAtTheSamePosition(t *testing.T) {
	for _, pos := range positions {
		self, twin := api.Peer{Node: 7, Pos: pos}, api.Peer{Node: 8, Pos: pos}
		for _, other := range positions {
			if other == pos {
				continue
			}
			x := made(t, self, twin, api.Peer{Node: 9, Pos: other})
			y := made(t, self, api.Peer{Node: 9, Pos: other}, twin)
			for _, p := range positions {
				steps(t, x, p, self, true)
				walks(t, x, p, self, true)
				if p == pos || isBetween(other, p, pos) {
					steps(t, y, p, self, true)
					walks(t, y, p, self, true)
				} else {
					steps(t, y, p, twin, true)
					walks(t, y, p, twin, false)
				}
			}
		}
	}
}

// All nodes, neighbours and fingers on a ring of few positions, held against the model.
func TestAllSmallTables(t *testing.T) {
	ring := []api.Pos{{}, {Lo: 1}, {Lo: greatest}, {Hi: 1}, {Hi: greatest, Lo: greatest}}
	each := func(play func(p api.Pos)) {
		for _, p := range ring {
			play(p)
		}
	}
	each(func(self api.Pos) {
		each(func(pred api.Pos) {
			each(func(succ api.Pos) {
				w := twinsOf(t, api.Peer{Node: 1, Pos: self}, api.Peer{Node: 2, Pos: pred}, api.Peer{Node: 3, Pos: succ})
				each(w.asks)
				each(func(first api.Pos) {
					each(func(second api.Pos) {
						w.learn(1, api.Peer{Node: 4, Pos: first}, api.Peer{Node: 4, Pos: second})
						w.learn(2, api.Peer{Node: 5, Pos: first}, api.Peer{Node: 5, Pos: second})
						w.learn(3, api.Peer{Node: 6, Pos: second}, api.Peer{Node: 6, Pos: second}, api.Peer{Node: 6, Pos: first})
						each(w.asks)
						each(func(p api.Pos) {
							w.handle(look(0, 1, p, 300, 7))
							w.handle(look(0, 1, p, 300, 8))
						})
					})
				})
			})
		})
	})
}

// Tables at random positions, near each other and far, held against the model.
func TestTablesAtRandom(t *testing.T) {
	r := rand.New(rand.NewPCG(13, 1))
	draw := func() api.Pos {
		p := api.Pos{Hi: uint64(r.IntN(3)) - 1, Lo: uint64(r.IntN(3)) - 1}
		switch r.IntN(4) {
		case 0:
			p.Hi = r.Uint64()
		case 1:
			p.Lo = r.Uint64()
		case 2:
			p = api.Pos{Hi: r.Uint64(), Lo: r.Uint64()}
		}
		return p
	}
	for range 20000 {
		w := twinsOf(t, api.Peer{Node: 1, Pos: draw()}, api.Peer{Node: 2, Pos: draw()}, api.Peer{Node: 3, Pos: draw()})
		for i := 1; i <= 3; i++ {
			var of []api.Peer
			for k := range r.IntN(5) {
				of = append(of, api.Peer{Node: 10*i + k, Pos: draw()})
			}
			w.learn(i, of...)
			for range 5 {
				w.asks(draw())
			}
		}
	}
}
