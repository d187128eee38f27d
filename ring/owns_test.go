package ring_test

import (
	"testing"

	"tontine/api"
)

func TestOwnsWhileAlone(t *testing.T) {
	for _, pos := range positions {
		r := made(t, api.Peer{Node: 7, Pos: pos})
		owns(t, r, true, positions...)
		joins(t, r, 1, ask(api.Peer{Node: 7}, 1))
		owns(t, r, false, positions...)
	}
}

// Without a pred, a node with a succ does not know what is its own, not even its own position.
func TestOwnsWithoutAPred(t *testing.T) {
	r := ringOf(t, peer(7, 50), peer(1, 60))
	owns(t, r, false, positions...)
	owns(t, r, false, at(49), at(50), at(51), at(60))
}

func TestOwnsWithAPred(t *testing.T) {
	r := between(t, peer(2, 40), peer(7, 50), peer(1, 60))
	for lo := uint64(0); lo <= 100; lo++ {
		owns(t, r, lo > 40 && lo <= 50, at(lo))
		owns(t, r, false, api.Pos{Hi: 1, Lo: lo})
	}
	// It is the same whether it is alone or not.
	r.Suspect(1)
	for lo := uint64(0); lo <= 100; lo++ {
		owns(t, r, lo > 40 && lo <= 50, at(lo))
	}
	r = between(t, peer(2, 90), peer(7, 10), peer(1, 60))
	for lo := uint64(0); lo <= 100; lo++ {
		owns(t, r, lo > 90 || lo <= 10, at(lo))
		owns(t, r, true, api.Pos{Hi: 1, Lo: lo})
	}
}

// Where the pred stands where the node does, all is its own.
func TestOwnsWithAPredAtTheSamePosition(t *testing.T) {
	for _, pos := range positions {
		r := made(t, api.Peer{Node: 7, Pos: pos})
		sends(t, r, notify(api.Peer{Node: 2, Pos: pos}, 7))
		owns(t, r, true, positions...)
	}
}

func TestOwnsOfPositionsInOrder(t *testing.T) {
	for a, pred := range positions {
		for b, pos := range positions {
			r := made(t, api.Peer{Node: 7, Pos: pos})
			sends(t, r, notify(api.Peer{Node: 2, Pos: pred}, 7))
			for x, p := range positions {
				want := a < x && x <= b
				if a >= b {
					want = x > a || x <= b
				}
				owns(t, r, want, p)
			}
		}
	}
}

// In a ring, each position is owned by exactly one node: the one at it, or the next one behind it.
func TestOwnsInARing(t *testing.T) {
	nodes := []api.Peer{peer(3, 10), peer(1, 20), peer(2, 40), peer(9, 70)}
	for lo := uint64(0); lo <= 100; lo++ {
		want := 3
		for _, p := range nodes {
			if lo <= p.Pos.Lo {
				want = p.Node
				break
			}
		}
		for i, self := range nodes {
			r := between(t, nodes[(i+3)%4], self, nodes[(i+1)%4], nodes[(i+2)%4], nodes[(i+3)%4])
			owns(t, r, want == self.Node, at(lo))
		}
	}
}

// Succs of a node that is joining, and of one that is alone, are itself.
func TestSuccsAndPredWhileJoining(t *testing.T) {
	for _, pos := range positions {
		self := api.Peer{Node: 255, Pos: pos}
		r := made(t, self)
		succsAre(t, r, self)
		joins(t, r, 0, ask(self, 0))
		succsAre(t, r, self)
		predIs(t, r, api.Peer{}, false)
		joinedIs(t, r, false)
	}
}

// every calls f with each list of so many numbers below that bound.
func every(length, below int, f func([]int)) {
	l := make([]int, length)
	for {
		f(l)
		at := 0
		for at < length && l[at] == below-1 {
			l[at] = 0
			at++
		}
		if at == length {
			return
		}
		l[at]++
	}
}
