package ring_test

import (
	"testing"

	"tontine/api"
	"tontine/ring"
)

func TestJoin(t *testing.T) {
	for _, own := range []int{0, 1, 7, 128, 254, 255} {
		self := peer(own, 50)
		for via := -300; via <= 600; via++ {
			r := made(t, self)
			if via < 0 || via > lastNode || via == own {
				mayNotJoin(t, r, via, api.ErrArg)
				knowsNoPred(t, r, self)
				stabilises(t, r)
				continue
			}
			joins(t, r, via, ask(self, via))
			waits(t, r, self, via)
		}
		for _, via := range wrongNumbers {
			r := made(t, self)
			mayNotJoin(t, r, via, api.ErrArg)
			knowsNoPred(t, r, self)
		}
	}
}

// A number that is none of another node is told before that the node is not alone.
func TestErrorsOfJoinInTheirOrder(t *testing.T) {
	self := peer(7, 50)
	for _, r := range notAlone(t, self) {
		for _, via := range append([]int{-1, 7, 256}, wrongNumbers...) {
			mayNotJoin(t, r, via, api.ErrArg)
		}
		for _, via := range []int{0, 1, 2, 3, 6, 8, 255} {
			mayNotJoin(t, r, via, api.ErrRingState)
		}
	}
}

// notAlone is a node in each of the states in which it is not alone.
func notAlone(t *testing.T, self api.Peer) []*ring.Ring {
	t.Helper()
	return []*ring.Ring{
		joining(t, self, 1),
		ringOf(t, self, peer(1, 60)),
		between(t, peer(1, 60), self, peer(1, 60)),
		between(t, peer(2, 40), self, peer(1, 60), peer(3, 70), peer(4, 80), peer(2, 40)),
	}
}

// A Join that is refused changes nothing: the node asks on where it has asked.
func TestRefusedJoinChangesNothing(t *testing.T) {
	self := peer(7, 50)
	r := joining(t, self, 1)
	for _, via := range []int{-1, 7, 256} {
		mayNotJoin(t, r, via, api.ErrArg)
		waits(t, r, self, 1)
	}
	for _, via := range []int{0, 1, 2, 255} {
		mayNotJoin(t, r, via, api.ErrRingState)
		waits(t, r, self, 1)
	}
	r = between(t, peer(2, 40), self, peer(1, 60), peer(2, 40))
	for _, via := range []int{-1, 7, 256} {
		mayNotJoin(t, r, via, api.ErrArg)
	}
	mayNotJoin(t, r, 3, api.ErrRingState)
	knows(t, r, peer(2, 40), peer(1, 60), peer(2, 40))
	stabilises(t, r, ask(self, 1))
}

// A node that has become alone again may join.
func TestJoinOfWhatIsAloneAgain(t *testing.T) {
	self := peer(7, 50)
	for i, r := range notAlone(t, self) {
		r.Leave()
		joins(t, r, 3, ask(self, 3))
		waits(t, r, self, 3)
		r.Suspect(3)
		knowsNoPred(t, r, self)
		joins(t, r, i, ask(self, i))
		waits(t, r, self, i)
	}
}

// A node may be alone and have a pred; it keeps that one while it joins.
func TestJoinKeepsThePred(t *testing.T) {
	self, pred := peer(7, 50), peer(2, 40)
	r := between(t, pred, self, peer(1, 60))
	r.Suspect(1)
	knows(t, r, pred, self)
	stabilises(t, r)
	owns(t, r, true, at(50), at(41))
	owns(t, r, false, at(40), at(51))
	joins(t, r, 1, ask(self, 1))
	predIs(t, r, pred, true)
	succsAre(t, r, self)
	joinedIs(t, r, false)
	owns(t, r, false, at(50), at(41), at(40), at(51))
	sends(t, r, tell(1, 7, peer(1, 60), peer(1, 60), peer(1, 60)), notify(self, 1))
	knows(t, r, pred, peer(1, 60))
}

func TestStabilise(t *testing.T) {
	self := peer(7, 50)
	r := made(t, self)
	stabilises(t, r)
	knowsNoPred(t, r, self)
	for _, via := range []int{0, 1, 6, 8, 255} {
		stabilises(t, joining(t, self, via), ask(self, via))
		stabilises(t, ringOf(t, self, peer(via, 60)), ask(self, via))
		stabilises(t, between(t, peer(9, 40), self, peer(via, 60), peer(9, 40)), ask(self, via))
	}
	r = between(t, peer(2, 40), self, peer(1, 60), peer(3, 70), peer(4, 80), peer(2, 40))
	for _, first := range []int{1, 3, 4, 2} {
		stabilises(t, r, ask(self, first))
		r.Suspect(first)
	}
	stabilises(t, r)
}

// A node that joins asks the one that it has asked last.
func TestStabiliseWhileJoining(t *testing.T) {
	self := peer(7, 50)
	r := joining(t, self, 1)
	sends(t, r, tell(1, 7, peer(1, 10), peer(9, 5), peer(2, 20), peer(3, 30)), ask(self, 3))
	waits(t, r, self, 3)
	sends(t, r, tell(3, 7, peer(3, 30), peer(2, 20), peer(4, 40), peer(5, 60)), ask(self, 4))
	waits(t, r, self, 4)
	sends(t, r, tell(4, 7, peer(4, 40), peer(3, 30), peer(5, 60), peer(1, 10)), notify(self, 5))
	stabilises(t, r, ask(self, 5))
	knowsNoPred(t, r, peer(5, 60), peer(1, 10), peer(4, 40))
}
