package ring_test

import (
	"slices"
	"testing"

	"tontine/api"
)

// enters is a node 7 that has asked node 1 and is told this, which lets it in.
func enters(t *testing.T, self api.Peer, told api.Msg, succs ...api.Peer) {
	t.Helper()
	r := joining(t, self, told.From)
	var want []api.Msg
	if first := succs[0].Node; first != self.Node {
		want = append(want, notify(self, first))
	}
	sends(t, r, told, want...)
	knowsNoPred(t, r, succs...)
}

// Where the one that was asked is its own succ, the way behind it is free.
func TestTellWhileJoiningOfOneThatIsAlone(t *testing.T) {
	for _, pos := range positions {
		for _, other := range positions {
			self, one := api.Peer{Node: 7, Pos: pos}, api.Peer{Node: 1, Pos: other}
			enters(t, self, tell(1, 7, one, one, one), one)
			enters(t, self, tell(1, 7, one, peer(2, 40), one), one)
			// The number counts, wherever the first one of the succs stands.
			moved := api.Peer{Node: 1, Pos: next(next(other))}
			enters(t, self, tell(1, 7, one, one, moved), moved)
			enters(t, self, tell(1, 7, one, one, moved, peer(2, 40)), moved, peer(2, 40))
		}
	}
}

// Where the own position is between that of the one that was asked and its succ's, this is the place.
func TestTellWhileJoiningAtTheRightPlace(t *testing.T) {
	s := []api.Peer{peer(3, 60), peer(4, 80), peer(5, 90), peer(6, 5)}
	one := peer(1, 40)
	for n := 1; n <= mostSuccs; n++ {
		for lo := uint64(41); lo < 60; lo++ {
			want := append(slices.Clone(s[:n]), one)
			enters(t, peer(7, lo), tell(1, 7, append([]api.Peer{one, s[n-1]}, s[:n]...)...), want[:min(n+1, mostSuccs)]...)
		}
	}
	// The place may lie round the end.
	for _, lo := range []uint64{91, 1000, 1 << 63, 1<<64 - 1, 0, 4} {
		enters(t, peer(7, lo), tell(1, 7, peer(1, 90), peer(2, 80), peer(6, 5), peer(3, 60)), peer(6, 5), peer(3, 60), peer(1, 90))
	}
}

// One position beside the place is not the place, nor is the position of another node.
func TestTellWhileJoiningAtTheBounds(t *testing.T) {
	one, succ := peer(1, 40), peer(3, 60)
	for _, lo := range []uint64{41, 59} {
		enters(t, peer(7, lo), tell(1, 7, one, one, succ), succ, one)
	}
	for _, lo := range []uint64{0, 39, 40, 60, 61, 1 << 63, 1<<64 - 1} {
		self := peer(7, lo)
		r := joining(t, self, 1)
		if lo == 60 {
			// The succ stands where this one does, so nobody may be asked.
			sends(t, r, tell(1, 7, one, one, succ))
			waits(t, r, self, 1)
			continue
		}
		sends(t, r, tell(1, 7, one, one, succ), ask(self, 3))
		waits(t, r, self, 3)
	}
	// Nothing is between a position and its direct successor.
	r := joining(t, peer(7, 41), 1)
	sends(t, r, tell(1, 7, one, one, peer(3, 41)))
	waits(t, r, peer(7, 41), 1)
}

func TestTellWhileJoiningFromAnother(t *testing.T) {
	self := peer(7, 50)
	for _, from := range []int{0, 2, 3, 6, 8, 255} {
		r := joining(t, self, 1)
		one := peer(from, 40)
		sends(t, r, tell(from, 7, one, one, one))
		waits(t, r, self, 1)
		sends(t, r, tell(from, 7, one, one, peer(1, 60)))
		waits(t, r, self, 1)
		sends(t, r, tell(from, 7, one, one, peer(1, 45)))
		waits(t, r, self, 1)
		sends(t, r, tell(1, 7, peer(1, 40), one, peer(3, 60)), notify(self, 3))
	}
	// Behind the next one it is that one that was asked.
	r := joining(t, self, 1)
	sends(t, r, tell(1, 7, peer(1, 10), peer(9, 5), peer(2, 20)), ask(self, 2))
	sends(t, r, tell(1, 7, peer(1, 10), peer(9, 5), peer(2, 20)))
	sends(t, r, tell(1, 7, peer(1, 40), peer(9, 5), peer(3, 60)))
	waits(t, r, self, 2)
}

// Asked next is the last one of those that are ahead of the own position, in the order in which they are told.
func TestTellWhileJoiningAsksTheLastOne(t *testing.T) {
	self := peer(7, 50)
	one := peer(1, 10)
	ahead := []api.Peer{peer(2, 20), peer(3, 30), peer(4, 40), peer(5, 49)}
	beside := []api.Peer{peer(12, 50), peer(13, 60), peer(14, 5), peer(15, 10)}
	for set := range 1 << mostSuccs {
		for n := 1; n <= mostSuccs; n++ {
			var s []api.Peer
			last := -1
			for i := range n {
				if set>>i&1 == 1 {
					s, last = append(s, ahead[i]), ahead[i].Node
				} else {
					s = append(s, beside[i])
				}
			}
			if n > 0 && isBetween(one.Pos, self.Pos, s[0].Pos) {
				continue
			}
			r := joining(t, self, 1)
			told := tell(1, 7, append([]api.Peer{one, peer(9, 5)}, s...)...)
			if last < 0 {
				sends(t, r, told)
				waits(t, r, self, 1)
			} else {
				sends(t, r, told, ask(self, last))
				waits(t, r, self, last)
			}
		}
	}
	// The last one need not be the nearest one.
	r := joining(t, self, 1)
	sends(t, r, tell(1, 7, one, one, peer(5, 49), peer(2, 20), peer(13, 60)), ask(self, 2))
	waits(t, r, self, 2)
}

// The one that is asked next may be the same one again, with another position.
func TestTellWhileJoiningAsksTheSameAgain(t *testing.T) {
	self := peer(7, 50)
	r := joining(t, self, 1)
	sends(t, r, tell(1, 7, peer(1, 10), peer(9, 5), peer(2, 20), peer(1, 30)), ask(self, 1))
	waits(t, r, self, 1)
}

// The chapter takes no number out of those that may be asked next, not even the node's own at another position.
func TestTellWhileJoiningWithTheOwnNumber(t *testing.T) {
	self := peer(7, 50)
	r := joining(t, self, 1)
	sends(t, r, tell(1, 7, peer(1, 10), peer(9, 5), peer(2, 20), peer(7, 30)), ask(self, 7))
	waits(t, r, self, 7)
	r.Suspect(7)
	knowsNoPred(t, r, self)
	// Where it comes first behind the one that was asked, the node is let in, and is alone.
	enters(t, self, tell(1, 7, peer(1, 10), peer(9, 5), peer(7, 70)), self)
	enters(t, self, tell(1, 7, peer(1, 10), peer(9, 5), peer(7, 70), peer(2, 20)), self)
	// Where it stands as it does, it is not between the two.
	r = joining(t, self, 1)
	sends(t, r, tell(1, 7, peer(1, 10), peer(9, 5), self))
	waits(t, r, self, 1)
	enters(t, self, tell(1, 7, peer(1, 10), peer(9, 5), peer(2, 60), peer(7, 70), peer(3, 80)), peer(2, 60))
}

// Clean of what is told, where the one that was asked comes last.
func TestTellWhileJoiningCleans(t *testing.T) {
	self, one := peer(7, 50), peer(1, 40)
	a, b, c, d := peer(2, 60), peer(3, 70), peer(4, 80), peer(5, 90)
	for _, row := range []struct{ s, want []api.Peer }{
		{[]api.Peer{a}, []api.Peer{a, one}},
		{[]api.Peer{a, b, c}, []api.Peer{a, b, c, one}},
		{[]api.Peer{a, b, c, d}, []api.Peer{a, b, c, d}},
		{[]api.Peer{a, a, a, a}, []api.Peer{a, one}},
		{[]api.Peer{a, b, a, c}, []api.Peer{a, b, c, one}},
		{[]api.Peer{a, peer(2, 65), b}, []api.Peer{a, b, one}},
		{[]api.Peer{a, one, b}, []api.Peer{a, one, b}},
		{[]api.Peer{a, peer(1, 41), b}, []api.Peer{a, peer(1, 41), b}},
		{[]api.Peer{a, self}, []api.Peer{a}},
		{[]api.Peer{a, peer(7, 75), b}, []api.Peer{a}},
		{[]api.Peer{a, b, self, c}, []api.Peer{a, b}},
		{[]api.Peer{a, b, c, self}, []api.Peer{a, b, c}},
	} {
		enters(t, self, tell(1, 7, append([]api.Peer{one, peer(9, 5)}, row.s...)...), row.want...)
	}
}

func TestTellWhileAlone(t *testing.T) {
	self := peer(7, 50)
	r := made(t, self)
	for _, from := range []int{0, 1, 6, 8, 255} {
		sends(t, r, tell(from, 7, peer(from, 60), peer(2, 55), peer(3, 70)))
		knowsNoPred(t, r, self)
	}
	r = between(t, peer(1, 40), self, peer(2, 60))
	r.Suspect(2)
	sends(t, r, tell(2, 7, peer(2, 60), peer(3, 55), peer(4, 70)))
	sends(t, r, tell(1, 7, peer(1, 40), peer(3, 55), peer(4, 70)))
	knows(t, r, peer(1, 40), self)
}

// What a node tells that is not the first succ changes nothing, though it be another succ or the pred.
func TestTellFromAnother(t *testing.T) {
	self := peer(7, 50)
	succs := []api.Peer{peer(1, 60), peer(3, 70), peer(4, 80)}
	r := between(t, peer(2, 40), self, succs...)
	for _, from := range []int{0, 2, 3, 4, 6, 8, 255} {
		sends(t, r, tell(from, 7, peer(from, 60), peer(9, 55), peer(5, 70)))
		sends(t, r, tell(from, 7, peer(from, 60), peer(from, 60), peer(1, 60)))
		knows(t, r, peer(2, 40), succs...)
	}
	sends(t, r, tell(1, 7, peer(1, 60), self, peer(5, 70)), notify(self, 1))
	knows(t, r, peer(2, 40), peer(1, 60), peer(5, 70))
}

// The first succ's pred comes first where it stands between the two.
func TestTellOfANearerOne(t *testing.T) {
	self := peer(7, 50)
	succs := []api.Peer{peer(1, 60), peer(3, 70), peer(4, 80), peer(2, 40)}
	for lo := uint64(0); lo <= 100; lo++ {
		for n := 1; n <= mostSuccs; n++ {
			r := between(t, peer(2, 40), self, succs[:n]...)
			p := peer(9, lo)
			if lo > 50 && lo < 60 {
				sends(t, r, tell(1, 7, peer(1, 60), p, peer(5, 90)), notify(self, 9))
				knows(t, r, peer(2, 40), append([]api.Peer{p}, succs[:min(n, mostSuccs-1)]...)...)
			} else {
				sends(t, r, tell(1, 7, peer(1, 60), p, peer(5, 90)), notify(self, 1))
				knows(t, r, peer(2, 40), peer(1, 60), peer(5, 90))
			}
		}
	}
}

// Between is measured to where the first succ was thought to stand, not to where it says that it stands.
func TestTellOfANearerOneByWhatWasKnown(t *testing.T) {
	self := peer(7, 50)
	r := ringOf(t, self, peer(1, 60), peer(3, 70))
	sends(t, r, tell(1, 7, peer(1, 56), peer(9, 58), peer(3, 70)), notify(self, 9))
	knowsNoPred(t, r, peer(9, 58), peer(1, 60), peer(3, 70))
	r = ringOf(t, self, peer(1, 60), peer(3, 70))
	sends(t, r, tell(1, 7, peer(1, 66), peer(9, 63), peer(4, 80)), notify(self, 1))
	knowsNoPred(t, r, peer(1, 66), peer(4, 80))
}

// The own number does not come between, wherever it is said to stand.
func TestTellOfTheOwnNumber(t *testing.T) {
	self := peer(7, 50)
	for _, lo := range []uint64{0, 49, 50, 51, 55, 59, 60, 61} {
		r := ringOf(t, self, peer(1, 60), peer(3, 70))
		sends(t, r, tell(1, 7, peer(1, 60), peer(7, lo), peer(4, 80)), notify(self, 1))
		knowsNoPred(t, r, peer(1, 60), peer(4, 80))
	}
}

// A nearer one that is among the succs already is taken from where it stands now.
func TestTellOfANearerOneThatIsKnown(t *testing.T) {
	self := peer(7, 50)
	r := ringOf(t, self, peer(1, 60), peer(3, 70), peer(4, 80), peer(5, 90))
	sends(t, r, tell(1, 7, peer(1, 60), peer(4, 55), peer(6, 95)), notify(self, 4))
	knowsNoPred(t, r, peer(4, 55), peer(1, 60), peer(3, 70), peer(5, 90))
	// Also the first succ itself may say that it stands nearer.
	sends(t, r, tell(4, 7, peer(4, 55), peer(4, 53), peer(6, 95)), notify(self, 4))
	knowsNoPred(t, r, peer(4, 53), peer(1, 60), peer(3, 70), peer(5, 90))
}

// Clean of what is told, where the first succ comes first.
func TestTellCleans(t *testing.T) {
	self, one := peer(7, 50), peer(1, 60)
	a, b, c, d := peer(2, 70), peer(3, 80), peer(4, 90), peer(5, 95)
	for _, row := range []struct{ s, want []api.Peer }{
		{[]api.Peer{a}, []api.Peer{one, a}},
		{[]api.Peer{a, b, c}, []api.Peer{one, a, b, c}},
		{[]api.Peer{a, b, c, d}, []api.Peer{one, a, b, c}},
		{[]api.Peer{a, b, a, d}, []api.Peer{one, a, b, d}},
		{[]api.Peer{a, a, a, d}, []api.Peer{one, a, d}},
		{[]api.Peer{peer(1, 65), peer(1, 66), a, peer(2, 75)}, []api.Peer{one, a}},
		{[]api.Peer{one}, []api.Peer{one}},
		{[]api.Peer{self}, []api.Peer{one}},
		{[]api.Peer{self, a, b}, []api.Peer{one}},
		{[]api.Peer{peer(7, 85), a, b}, []api.Peer{one}},
		{[]api.Peer{a, self, b, c}, []api.Peer{one, a}},
		{[]api.Peer{a, b, c, self}, []api.Peer{one, a, b, c}},
		{[]api.Peer{a, a, self, b}, []api.Peer{one, a}},
	} {
		r := ringOf(t, self, one, peer(9, 99))
		sends(t, r, tell(1, 7, append([]api.Peer{one, peer(6, 40)}, row.s...)...), notify(self, 1))
		knowsNoPred(t, r, row.want...)
	}
}

// Whatever is told, the pred stays as it was.
func TestTellLeavesThePred(t *testing.T) {
	self, pred := peer(7, 50), peer(2, 40)
	r := between(t, pred, self, peer(1, 60))
	sends(t, r, tell(1, 7, peer(1, 60), peer(3, 45), peer(3, 45)), notify(self, 1))
	knows(t, r, pred, peer(1, 60), peer(3, 45))
	sends(t, r, tell(1, 7, peer(1, 60), peer(9, 55), peer(3, 45)), notify(self, 9))
	knows(t, r, pred, peer(9, 55), peer(1, 60), peer(3, 45))
}
