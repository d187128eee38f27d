package ring_test

import (
	"slices"
	"testing"

	"tontine/api"
)

func TestLeaveWhileAlone(t *testing.T) {
	self := peer(7, 50)
	r := made(t, self)
	leaves(t, r)
	knowsNoPred(t, r, self)
	// One that is alone forgets the pred that it has all the same.
	r = between(t, peer(2, 40), self, peer(1, 60))
	r.Suspect(1)
	knows(t, r, peer(2, 40), self)
	leaves(t, r)
	knowsNoPred(t, r, self)
	owns(t, r, true, positions...)
}

func TestLeaveOfOneThatIsJoining(t *testing.T) {
	self := peer(7, 50)
	r := joining(t, self, 1)
	leaves(t, r)
	knowsNoPred(t, r, self)
	stabilises(t, r)
	// What is told to it comes too late.
	sends(t, r, tell(1, 7, peer(1, 40), peer(1, 40), peer(1, 40)))
	knowsNoPred(t, r, self)
	// Also a pred that it has had from before is forgotten.
	r = between(t, peer(2, 40), self, peer(1, 60))
	r.Suspect(1)
	joins(t, r, 1, ask(self, 1))
	leaves(t, r)
	knowsNoPred(t, r, self)
}

func TestLeave(t *testing.T) {
	self, pred := peer(7, 50), peer(2, 40)
	all := []api.Peer{peer(1, 60), peer(3, 70), peer(4, 80), peer(5, 90)}
	for n := 1; n <= mostSuccs; n++ {
		succs := all[:n]
		r := ringOf(t, self, succs...)
		leaves(t, r, leave(7, 1, append([]api.Peer{self, self}, succs...)...))
		knowsNoPred(t, r, self)
		leaves(t, r)

		r = between(t, pred, self, succs...)
		told := append([]api.Peer{self, pred}, succs...)
		leaves(t, r, leave(7, 2, told...), leave(7, 1, told...))
		knowsNoPred(t, r, self)
		stabilises(t, r)
		owns(t, r, true, positions...)
		leaves(t, r)
	}
}

// The first succ that is also the pred is told once; its number counts, not where it stands.
func TestLeaveOfOneWhosePredIsItsSucc(t *testing.T) {
	self := peer(7, 50)
	for _, pred := range []api.Peer{peer(1, 60), peer(1, 61), peer(1, 40)} {
		r := between(t, pred, self, peer(1, 60))
		leaves(t, r, leave(7, 1, self, pred, peer(1, 60)))
		knowsNoPred(t, r, self)
	}
	// Another succ that is also the pred is told as the pred.
	r := between(t, peer(3, 70), self, peer(1, 60), peer(3, 70))
	told := []api.Peer{self, peer(3, 70), peer(1, 60), peer(3, 70)}
	leaves(t, r, leave(7, 3, told...), leave(7, 1, told...))
}

func TestLeaveToEachNode(t *testing.T) {
	self := peer(7, 50)
	for _, n := range []int{0, 1, 6, 8, 254, 255} {
		r := between(t, peer(n, 40), self, peer(3, 60))
		told := []api.Peer{self, peer(n, 40), peer(3, 60)}
		leaves(t, r, leave(7, n, told...), leave(7, 3, told...))
		r = between(t, peer(3, 40), self, peer(n, 60))
		told = []api.Peer{self, peer(3, 40), peer(n, 60)}
		leaves(t, r, leave(7, 3, told...), leave(7, n, told...))
	}
}

// One that has left answers as one that is alone, and may join again.
func TestLeaveAndJoinAgain(t *testing.T) {
	self := peer(7, 50)
	r := between(t, peer(2, 40), self, peer(1, 60))
	r.Leave()
	sends(t, r, ask(peer(1, 60), 7), tell(7, 1, self, self, self))
	sends(t, r, tell(1, 7, peer(1, 60), self, peer(2, 40)))
	knowsNoPred(t, r, self)
	joins(t, r, 1, ask(self, 1))
	waits(t, r, self, 1)
	leaves(t, r)
	sends(t, r, notify(peer(3, 45), 7))
	knows(t, r, peer(3, 45), peer(3, 45))
}

func TestSuspectOfASucc(t *testing.T) {
	self, pred := peer(7, 50), peer(2, 40)
	all := []api.Peer{peer(1, 60), peer(3, 70), peer(4, 80), peer(5, 90)}
	for n := 1; n <= mostSuccs; n++ {
		for i := range n {
			want := slices.Delete(slices.Clone(all[:n]), i, i+1)
			if n == 1 {
				want = []api.Peer{self}
			}
			r := between(t, pred, self, all[:n]...)
			for range 2 {
				r.Suspect(all[i].Node)
				knows(t, r, pred, want...)
			}
		}
	}
}

func TestSuspectOfAllSuccs(t *testing.T) {
	self := peer(7, 50)
	all := []api.Peer{peer(1, 60), peer(3, 70), peer(4, 80), peer(5, 90)}
	every(mostSuccs, mostSuccs, func(l []int) {
		r := between(t, peer(2, 40), self, all...)
		left := slices.Clone(all)
		for _, i := range l {
			r.Suspect(all[i].Node)
			left = slices.DeleteFunc(left, func(p api.Peer) bool { return p == all[i] })
			if len(left) > 0 {
				knows(t, r, peer(2, 40), left...)
			} else {
				knows(t, r, peer(2, 40), self)
				stabilises(t, r)
			}
		}
		r.Suspect(2)
		predIs(t, r, api.Peer{}, false)
	})
}

func TestSuspectOfThePred(t *testing.T) {
	self := peer(7, 50)
	r := between(t, peer(2, 40), self, peer(1, 60), peer(3, 70))
	r.Suspect(2)
	knowsNoPred(t, r, peer(1, 60), peer(3, 70))
	sends(t, r, notify(peer(9, 10), 7))
	knows(t, r, peer(9, 10), peer(1, 60), peer(3, 70))
	// One that is pred and succ is neither any more.
	r = between(t, peer(1, 60), self, peer(3, 70), peer(1, 60))
	r.Suspect(1)
	knowsNoPred(t, r, peer(3, 70))
	r = between(t, peer(1, 60), self, peer(1, 60))
	r.Suspect(1)
	knowsNoPred(t, r, self)
	owns(t, r, true, positions...)
}

// A number that the node knows of nobody else changes nothing: its own, another one, or one that is none.
func TestSuspectOfNobody(t *testing.T) {
	self := peer(7, 50)
	for _, n := range append([]int{7, 0, 9, 254, 255, 1 + 256, 2 + 256, 3 - 256, 1 + 1<<32}, wrongNumbers...) {
		r := made(t, self)
		r.Suspect(n)
		knowsNoPred(t, r, self)
		r = joining(t, self, 1)
		r.Suspect(n)
		waits(t, r, self, 1)
		r = ringOf(t, self, peer(1, 60), peer(3, 70))
		r.Suspect(n)
		knowsNoPred(t, r, peer(1, 60), peer(3, 70))
		r = between(t, peer(2, 40), self, peer(1, 60), peer(3, 70))
		r.Suspect(n)
		knows(t, r, peer(2, 40), peer(1, 60), peer(3, 70))
	}
}

func TestSuspectWhileJoining(t *testing.T) {
	self := peer(7, 50)
	for _, asked := range []int{0, 1, 6, 8, 254, 255} {
		r := joining(t, self, asked)
		r.Suspect(asked ^ 2)
		waits(t, r, self, asked)
		r.Suspect(asked)
		knowsNoPred(t, r, self)
		stabilises(t, r)
		// What it tells comes too late.
		sends(t, r, tell(asked, 7, peer(asked, 40), peer(asked, 40), peer(asked, 40)))
		knowsNoPred(t, r, self)
	}
	// The one that was asked last counts.
	r := joining(t, self, 1)
	sends(t, r, tell(1, 7, peer(1, 10), peer(9, 5), peer(2, 20)), ask(self, 2))
	r.Suspect(1)
	waits(t, r, self, 2)
	r.Suspect(2)
	knowsNoPred(t, r, self)
}

func TestSuspectWhileJoiningWithAPred(t *testing.T) {
	self := peer(7, 50)
	for _, asked := range []int{1, 2} {
		for _, n := range []int{asked, 2, 9} {
			r := between(t, peer(2, 40), self, peer(1, 60))
			r.Suspect(1)
			joins(t, r, asked, ask(self, asked))
			r.Suspect(n)
			succsAre(t, r, self)
			if n == 9 {
				predIs(t, r, peer(2, 40), true)
			} else {
				predIs(t, r, api.Peer{}, false)
			}
			joinedIs(t, r, n == asked)
		}
	}
}

// One that was asked before, but has let the node in, is not waited for any more.
func TestSuspectOfOneThatWasAskedOnce(t *testing.T) {
	self := peer(7, 50)
	r := joining(t, self, 1)
	sends(t, r, tell(1, 7, peer(1, 40), peer(1, 40), peer(3, 60)), notify(self, 3))
	r.Suspect(1)
	knowsNoPred(t, r, peer(3, 60))
	sends(t, r, leave(1, 7, peer(1, 40), peer(1, 40), peer(3, 60)))
	knowsNoPred(t, r, peer(3, 60))
}
