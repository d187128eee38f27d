package store_test

import (
	"testing"

	"tontine/api"
	"tontine/store"
)

// Each replica of each bucket may be opened, dropped and opened anew, and is apart from all others.
func TestOpenOfAll(t *testing.T) {
	s := store.New()
	each := func(f func(bucket, replica int, inc uint32, full bool)) {
		for bucket := range 64 {
			for replica := range 4 {
				f(bucket, replica, uint32(1+bucket*4+replica), (bucket+replica)%3 > 0)
			}
		}
	}
	fresh := func(inc uint32, full bool) api.Copy {
		if full {
			return api.Copy{State: api.StateFull, Inc: inc}
		}
		return api.Copy{State: api.StateRecovering, Inc: inc}
	}
	each(func(bucket, replica int, inc uint32, full bool) {
		hasNone(t, s, bucket, replica)
		isOK(t, s.Open(bucket, replica, inc, full))
	})
	each(func(bucket, replica int, inc uint32, full bool) {
		holds(t, s, bucket, replica, fresh(inc, full))
		if got := s.State(bucket, replica); got != fresh(inc, full).State {
			t.Errorf("State(%d, %d): %d", bucket, replica, got)
		}
		if full {
			answers(t, s, bucket, replica, inc, 0, nil)
		} else {
			answersNot(t, s, bucket, replica, api.ErrStoreState)
		}
		fails(t, s.Open(bucket, replica, inc+1, !full), api.ErrStoreState)
	})
	each(func(bucket, replica int, inc uint32, full bool) {
		holds(t, s, bucket, replica, fresh(inc, full))
		isOK(t, s.Drop(bucket, replica))
		hasNone(t, s, bucket, replica)
		fails(t, s.Drop(bucket, replica), api.ErrStoreNone)
		isOK(t, s.Open(bucket, replica, 5, !full))
	})
	each(func(bucket, replica int, inc uint32, full bool) {
		holds(t, s, bucket, replica, fresh(5, !full))
	})
}

func TestOpenOfWhatMayNotBe(t *testing.T) {
	s := store.New()
	for _, full := range []bool{true, false} {
		for _, wrong := range wrongNumbers {
			for replica := range 4 {
				fails(t, s.Open(wrong, replica, 1, full), api.ErrArg)
				fails(t, s.Open(wrong, replica, 0, full), api.ErrArg)
				hasNone(t, s, wrong, replica)
			}
		}
		for _, wrong := range wrongReplicas {
			for _, bucket := range append([]int{0, 24, lastBucket}, wrongNumbers...) {
				fails(t, s.Open(bucket, wrong, 1, full), api.ErrArg)
				fails(t, s.Open(bucket, wrong, 0, full), api.ErrArg)
				hasNone(t, s, bucket, wrong)
			}
		}
		for replica := range 4 {
			fails(t, s.Open(9, replica, 0, full), api.ErrArg)
			hasNone(t, s, 9, replica)
		}
	}
}

// That an incarnation may not be is told ahead of what the store has.
func TestOrderOfErrorsOfOpen(t *testing.T) {
	s := opened(t, 9, 1)
	fails(t, s.Open(9, 1, 0, true), api.ErrArg)
	fails(t, s.Open(9, 1, 0, false), api.ErrArg)
	fails(t, s.Open(9, 1, 1, true), api.ErrStoreState)
	fails(t, s.Open(9, 1, greatest, false), api.ErrStoreState)
	holds(t, s, 9, 1, api.Copy{State: api.StateFull, Inc: 1})
}

func TestOpenOfIncarnations(t *testing.T) {
	for _, inc := range []uint32{1, 2, 255, 256, 1 << 16, 1<<31 - 1, 1 << 31, greatest - 1, greatest} {
		s := store.New()
		isOK(t, s.Open(9, 1, inc, true))
		isOK(t, s.Open(9, 2, inc, false))
		answers(t, s, 9, 1, inc, 0, nil)
		holds(t, s, 9, 2, api.Copy{State: api.StateRecovering, Inc: inc})
	}
}

// What was dropped leaves nothing behind.
func TestOpenBehindDrop(t *testing.T) {
	s := opened(t, 9, 1)
	l := writes(7, 9, 4, "v")
	votes(t, s, 1, l, api.VotePrepared)
	decides(t, s, 1, l, true)
	votes(t, s, 1, reads(8, 9, 5), api.VotePrepared)
	_, e := s.Fence(9, 1, 3, 9)
	isOK(t, e)
	isOK(t, s.Drop(9, 1))
	isOK(t, s.Open(9, 1, 2, true))
	holds(t, s, 9, 1, api.Copy{State: api.StateFull, Inc: 2})
	votes(t, s, 1, with(l, 0, 2, 1, 1), api.VotePrepared)
}

// Two stores share nothing.
func TestStoresAreApart(t *testing.T) {
	a, b := opened(t, 9, 1), opened(t, 9, 1)
	l := writes(7, 9, 0, "v")
	votes(t, a, 1, l, api.VotePrepared)
	decides(t, a, 1, l, true)
	holds(t, b, 9, 1, api.Copy{State: api.StateFull, Inc: 1})
	isOK(t, a.Drop(9, 1))
	holds(t, b, 9, 1, api.Copy{State: api.StateFull, Inc: 1})
	hasNone(t, a, 9, 1)
}

// The replicas of one store share nothing, neither those of a bucket nor those of a place.
func TestReplicasAreApart(t *testing.T) {
	s := store.New()
	all := [][2]int{{9, 0}, {9, 1}, {9, 2}, {9, 3}, {25, 0}, {57, 1}, {1, 2}, {2, 1}, {0, 0}, {63, 3}}
	for _, r := range all {
		isOK(t, s.Open(r[0], r[1], 1, true))
	}
	for n, r := range all {
		l := writes(7, r[0], uint32(n), "v")
		votes(t, s, r[1], l, api.VotePrepared)
		_, e := s.Fence(r[0], r[1], (r[1]+1)%4, uint32(n+1))
		isOK(t, e)
		want := api.Copy{State: api.StateFull, Inc: 1, Locks: []api.Lock{l}, Votes: []api.Voted{{Tx: 7, Vote: api.VotePrepared}}}
		want.Fences[(r[1]+1)%4] = uint32(n + 1)
		holds(t, s, r[0], r[1], want)
		for _, other := range all[n+1:] {
			holds(t, s, other[0], other[1], api.Copy{State: api.StateFull, Inc: 1})
		}
		decides(t, s, r[1], l, true)
		answers(t, s, r[0], r[1], 1, uint32(n+1), entriesOf(r[0], 1, "v"))
	}
	for n, r := range all {
		answers(t, s, r[0], r[1], 1, uint32(n+1), entriesOf(r[0], 1, "v"))
	}
}

// A recovering replica tells, votes and decides nothing.
func TestRecoveringReplica(t *testing.T) {
	s := store.New()
	isOK(t, s.Open(9, 1, 3, false))
	was := api.Copy{State: api.StateRecovering, Inc: 3}
	answersNot(t, s, 9, 1, api.ErrStoreState)
	votesNot(t, s, 1, with(writes(7, 9, 0, "v"), 1, 3, 1, 1), api.ErrStoreState)
	// Its incarnation is not asked for.
	votesNot(t, s, 1, writes(7, 9, 0, "v"), api.ErrStoreState)
	decidesNot(t, s, 1, writes(7, 9, 0, "v"), api.ErrStoreState)
	if c, e := s.Fence(9, 1, 0, 1); !same(c, api.Copy{}) || e != api.ErrStoreState {
		t.Errorf("Fence: %+v, %d", c, e)
	}
	holds(t, s, 9, 1, was)
}
