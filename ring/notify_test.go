package ring_test

import (
	"testing"

	"tontine/api"
)

func TestNotifyWhileJoining(t *testing.T) {
	self := peer(7, 50)
	r := joining(t, self, 1)
	for _, from := range []int{0, 1, 2, 6, 8, 255} {
		for _, lo := range []uint64{0, 49, 50, 51} {
			sends(t, r, notify(peer(from, lo), 7))
			waits(t, r, self, 1)
		}
	}
}

func TestNotifyWithoutAPred(t *testing.T) {
	self := peer(7, 50)
	for _, from := range []int{0, 1, 2, 6, 8, 255} {
		for _, pos := range append([]api.Pos{at(49), at(50), at(51)}, positions...) {
			p := api.Peer{Node: from, Pos: pos}
			// One that is alone gets its first other node.
			r := made(t, self)
			sends(t, r, notify(p, 7))
			knows(t, r, p, p)
			r = ringOf(t, self, peer(1, 60), peer(3, 70))
			sends(t, r, notify(p, 7))
			knows(t, r, p, peer(1, 60), peer(3, 70))
		}
	}
}

// A pred gives way to one that stands between it and the node.
func TestNotifyWithAPred(t *testing.T) {
	self, pred := peer(7, 50), peer(2, 40)
	for lo := uint64(0); lo <= 100; lo++ {
		for _, from := range []int{0, 1, 2, 9, 255} {
			p := peer(from, lo)
			r := between(t, pred, self, peer(1, 60))
			sends(t, r, notify(p, 7))
			if lo > 40 && lo < 50 {
				knows(t, r, p, peer(1, 60))
			} else {
				knows(t, r, pred, peer(1, 60))
			}
		}
	}
	// The place of the pred may lie round the end.
	for lo := uint64(0); lo <= 100; lo++ {
		p := peer(9, lo)
		r := between(t, peer(2, 90), peer(7, 10), peer(1, 60))
		sends(t, r, notify(p, 7))
		if lo > 90 || lo < 10 {
			knows(t, r, p, peer(1, 60))
		} else {
			knows(t, r, peer(2, 90), peer(1, 60))
		}
	}
}

// The nearest one remains, in whichever order they come.
func TestNotifyOfMany(t *testing.T) {
	self := peer(7, 50)
	every(5, 5, func(l []int) {
		r := made(t, self)
		best := 0
		for i, k := range l {
			sends(t, r, notify(peer(20+k, uint64(45+k)), 7))
			if i == 0 || k > best {
				best = k
			}
			// Its first succ is the first one that came.
			knows(t, r, peer(20+best, uint64(45+best)), peer(20+l[0], uint64(45+l[0])))
		}
	})
}

// A node that is alone, but has a pred, takes one that comes between as both; no other one.
func TestNotifyWhileAloneWithAPred(t *testing.T) {
	self, pred := peer(7, 50), peer(2, 40)
	for lo := uint64(35); lo <= 55; lo++ {
		for _, from := range []int{1, 2, 9} {
			r := between(t, pred, self, peer(1, 60))
			r.Suspect(1)
			p := peer(from, lo)
			sends(t, r, notify(p, 7))
			if lo > 40 && lo < 50 {
				knows(t, r, p, p)
			} else {
				knows(t, r, pred, self)
			}
		}
	}
}

// gone is a MsgRingLeave of node 1, which stood at 60.
func gone(pred api.Peer, succs ...api.Peer) api.Msg {
	return leave(1, 7, append([]api.Peer{peer(1, 60), pred}, succs...)...)
}

// gives brings a MsgRingLeave to a node with these succs, and holds its succs then.
func gives(t *testing.T, was []api.Peer, m api.Msg, want ...api.Peer) {
	t.Helper()
	self := peer(7, 50)
	for _, pred := range []api.Peer{peer(19, 45), peer(255, 51)} {
		r := between(t, pred, self, was...)
		sends(t, r, m)
		knows(t, r, pred, want...)
	}
	r := ringOf(t, self, was...)
	sends(t, r, m)
	knowsNoPred(t, r, want...)
}

// The succs of the one that leaves take its place among the succs.
func TestLeaveOfASucc(t *testing.T) {
	a, b, c, d, one, self := peer(2, 70), peer(3, 80), peer(4, 90), peer(5, 95), peer(1, 60), peer(7, 50)
	e, f := peer(8, 96), peer(9, 97)
	pred := peer(6, 55)
	for _, row := range []struct{ was, s, want []api.Peer }{
		{[]api.Peer{one}, []api.Peer{a}, []api.Peer{a}},
		{[]api.Peer{one}, []api.Peer{a, b, c, d}, []api.Peer{a, b, c, d}},
		{[]api.Peer{one, a, b, c}, []api.Peer{a, b, c, d}, []api.Peer{a, b, c, d}},
		{[]api.Peer{one, a, b, c}, []api.Peer{d, e}, []api.Peer{d, e, a, b}},
		{[]api.Peer{a, one, b, c}, []api.Peer{d, e}, []api.Peer{a, d, e, b}},
		{[]api.Peer{a, b, one, c}, []api.Peer{d, e, f}, []api.Peer{a, b, d, e}},
		{[]api.Peer{a, b, c, one}, []api.Peer{d, e, f}, []api.Peer{a, b, c, d}},
		{[]api.Peer{a, b, c, one}, []api.Peer{a, b}, []api.Peer{a, b, c}},
		{[]api.Peer{a, b, c, d}, []api.Peer{e, f}, []api.Peer{a, b, c, d}},
		{[]api.Peer{a}, []api.Peer{e}, []api.Peer{a}},
		// What is told of itself is left out.
		{[]api.Peer{one, a}, []api.Peer{one, b}, []api.Peer{b, a}},
		{[]api.Peer{one, a}, []api.Peer{one, peer(1, 61)}, []api.Peer{a}},
		{[]api.Peer{one}, []api.Peer{one}, []api.Peer{self}},
		{[]api.Peer{one}, []api.Peer{peer(1, 77), one, one, a}, []api.Peer{a}},
		// Its own number cuts the list, and with it what was known behind.
		{[]api.Peer{one}, []api.Peer{self}, []api.Peer{self}},
		{[]api.Peer{one, a}, []api.Peer{self, b}, []api.Peer{self}},
		{[]api.Peer{one, a}, []api.Peer{b, self}, []api.Peer{b}},
		{[]api.Peer{a, one, b}, []api.Peer{c, peer(7, 92), d}, []api.Peer{a, c}},
		// A node that is known already stays where it comes first.
		{[]api.Peer{one, a, b}, []api.Peer{c, b}, []api.Peer{c, b, a}},
		{[]api.Peer{one, a}, []api.Peer{peer(2, 71), peer(2, 72)}, []api.Peer{peer(2, 71)}},
		{[]api.Peer{a, one}, []api.Peer{peer(2, 71), b}, []api.Peer{a, b}},
	} {
		gives(t, row.was, gone(pred, row.s...), row.want...)
	}
}

// The pred of the one that leaves takes its place as the pred.
func TestLeaveOfThePred(t *testing.T) {
	self := peer(7, 50)
	for _, n := range []int{0, 2, 3, 6, 8, 254, 255} {
		for _, lo := range []uint64{0, 40, 49, 50, 51, 60} {
			r := between(t, peer(1, 45), self, peer(3, 70), peer(4, 80))
			sends(t, r, leave(1, 7, peer(1, 45), peer(n, lo), self, peer(3, 70)))
			knows(t, r, peer(n, lo), peer(3, 70), peer(4, 80))
		}
	}
	// Neither the node itself nor the one that leaves may be it, wherever they are said to stand.
	for _, n := range []int{7, 1} {
		for _, lo := range []uint64{0, 40, 45, 50, 60} {
			r := between(t, peer(1, 45), self, peer(3, 70), peer(4, 80))
			sends(t, r, leave(1, 7, peer(1, 45), peer(n, lo), self))
			knowsNoPred(t, r, peer(3, 70), peer(4, 80))
		}
	}
	// The number counts, not where it says that it stands.
	r := between(t, peer(1, 45), self, peer(3, 70))
	sends(t, r, leave(1, 7, peer(1, 48), peer(2, 40), self))
	knows(t, r, peer(2, 40), peer(3, 70))
}

// Of two nodes, the one that remains is alone.
func TestLeaveOfPredAndSucc(t *testing.T) {
	self, one := peer(7, 50), peer(1, 60)
	r := between(t, one, self, one)
	sends(t, r, leave(1, 7, one, self, self))
	knowsNoPred(t, r, self)
	stabilises(t, r)
	owns(t, r, true, positions...)

	r = between(t, one, self, peer(3, 70), one)
	sends(t, r, leave(1, 7, one, peer(3, 70), self, peer(3, 70)))
	knows(t, r, peer(3, 70), peer(3, 70))
	r = between(t, one, self, one, peer(3, 70))
	sends(t, r, leave(1, 7, one, peer(3, 70), peer(3, 70), self))
	knows(t, r, peer(3, 70), peer(3, 70))
}

func TestLeaveOfNeither(t *testing.T) {
	self := peer(7, 50)
	for _, from := range []int{0, 1, 2, 6, 8, 255} {
		m := leave(from, 7, peer(from, 55), peer(9, 52), peer(8, 56), peer(10, 57))
		r := between(t, peer(11, 40), self, peer(12, 60), peer(13, 70))
		sends(t, r, m)
		knows(t, r, peer(11, 40), peer(12, 60), peer(13, 70))
		r = made(t, self)
		sends(t, r, m)
		knowsNoPred(t, r, self)
	}
}

func TestLeaveWhileJoining(t *testing.T) {
	self := peer(7, 50)
	for _, by := range []int{0, 1, 6, 8, 255} {
		r := joining(t, self, by)
		for _, other := range []int{0, 1, 2, 6, 8, 255} {
			if other != by {
				sends(t, r, leave(other, 7, peer(other, 40), peer(9, 30), peer(by, 60)))
				waits(t, r, self, by)
			}
		}
		sends(t, r, leave(by, 7, peer(by, 40), peer(9, 30), peer(10, 60)))
		knowsNoPred(t, r, self)
		stabilises(t, r)
		joins(t, r, 10, ask(self, 10))
		waits(t, r, self, 10)
	}
	// The one that was asked last counts.
	r := joining(t, self, 1)
	sends(t, r, tell(1, 7, peer(1, 10), peer(9, 5), peer(2, 20)), ask(self, 2))
	sends(t, r, leave(1, 7, peer(1, 10), peer(9, 5), peer(2, 20)))
	waits(t, r, self, 2)
	sends(t, r, leave(2, 7, peer(2, 20), peer(9, 5), peer(3, 30)))
	knowsNoPred(t, r, self)
}

// A node that joins may have a pred from before; that one leaves as any pred does, but is forgotten where the node that was asked leaves.
func TestLeaveWhileJoiningWithAPred(t *testing.T) {
	self := peer(7, 50)
	for _, m := range []struct {
		m    api.Msg
		pred api.Peer
		is   bool
	}{
		{leave(2, 7, peer(2, 40), peer(3, 30), self), peer(3, 30), true},
		{leave(2, 7, peer(2, 40), self, self), api.Peer{}, false},
		{leave(2, 7, peer(2, 40), peer(2, 40), self), api.Peer{}, false},
		{leave(3, 7, peer(3, 40), peer(4, 30), self), peer(2, 40), true},
	} {
		r := between(t, peer(2, 40), self, peer(1, 60))
		r.Suspect(1)
		joins(t, r, 1, ask(self, 1))
		sends(t, r, m.m)
		predIs(t, r, m.pred, m.is)
		succsAre(t, r, self)
		stabilises(t, r, ask(self, 1))
		sends(t, r, leave(1, 7, peer(1, 60), peer(4, 30), peer(5, 70)))
		knowsNoPred(t, r, self)
	}
	// The pred may be the one that was asked.
	r := between(t, peer(2, 40), self, peer(1, 60))
	r.Suspect(1)
	joins(t, r, 2, ask(self, 2))
	sends(t, r, leave(2, 7, peer(2, 40), peer(4, 30), peer(5, 70)))
	knowsNoPred(t, r, self)
}
