package store_test

import (
	"testing"

	"tontine/api"
	"tontine/store"
)

// fences raises a fence, and asks for the copy behind it.
func fences(t *testing.T, s *store.Store, bucket, replica, of int, inc uint32) {
	t.Helper()
	want := extracted(t, s, bucket, replica)
	want.Fences[of] = inc
	c, e := s.Fence(bucket, replica, of, inc)
	if e != api.OK || !same(c, want) {
		t.Errorf("Fence(%d, %d, %d, %d): %+v, %d, want %+v", bucket, replica, of, inc, c, e, want)
	}
	holds(t, s, bucket, replica, want)
}

// fencesNot asks for an error of Fence, which changes nothing.
func fencesNot(t *testing.T, s *store.Store, bucket, replica, of int, inc uint32, want api.Errno) {
	t.Helper()
	before, had := s.Extract(bucket, replica)
	if c, e := s.Fence(bucket, replica, of, inc); !same(c, api.Copy{}) || e != want {
		t.Errorf("Fence(%d, %d, %d, %d): %+v, %d, want the error %d", bucket, replica, of, inc, c, e, want)
	}
	if after, has := s.Extract(bucket, replica); has != had || !same(after, before) {
		t.Errorf("Fence(%d, %d, %d, %d) made %+v of %+v", bucket, replica, of, inc, after, before)
	}
}

var someIncs = []uint32{1, 2, 3, 255, 256, 1 << 16, 1<<31 - 1, 1 << 31, greatest - 1, greatest}

// A fence goes up, or stays, for each other replica by itself.
func TestFences(t *testing.T) {
	for replica := range 4 {
		for of := range 4 {
			if of == replica {
				continue
			}
			for _, first := range someIncs {
				for _, second := range someIncs {
					s := opened(t, 24, replica)
					fences(t, s, 24, replica, of, first)
					if second < first {
						fencesNot(t, s, 24, replica, of, second, api.ErrStoreInc)
					} else {
						fences(t, s, 24, replica, of, second)
					}
				}
			}
		}
	}
}

func TestFencesAreApart(t *testing.T) {
	s := opened(t, 24, 1)
	fences(t, s, 24, 1, 0, 9)
	fences(t, s, 24, 1, 2, 5)
	fences(t, s, 24, 1, 3, 1)
	fencesNot(t, s, 24, 1, 0, 8, api.ErrStoreInc)
	fencesNot(t, s, 24, 1, 2, 4, api.ErrStoreInc)
	fences(t, s, 24, 1, 3, 2)
	holds(t, s, 24, 1, api.Copy{State: api.StateFull, Inc: 1, Fences: [4]uint32{9, 0, 5, 2}})
}

// A fence may be below the incarnation of the replica that has it: these are of two replicas.
func TestFencesBelowTheOwnIncarnation(t *testing.T) {
	s := installed(t, 24, 1, api.Copy{State: api.StateFull, Inc: 9})
	fences(t, s, 24, 1, 0, 1)
	fences(t, s, 24, 1, 3, greatest)
	fences(t, s, 24, 1, 2, 9)
}

// The copy that is told has all that the replica holds.
func TestFenceTellsAll(t *testing.T) {
	s := opened(t, 24, 1)
	decides(t, s, 1, writes(3, 24, 6, "v"), true)
	votes(t, s, 1, reads(4, 24, 8), api.VotePrepared)
	votes(t, s, 1, reads(5, 24, 2), api.VoteAbort)
	fences(t, s, 24, 1, 0, 7)
	c, e := s.Fence(24, 1, 2, 8)
	if e != api.OK || c.Ver != 7 || len(c.Data) != 1 || len(c.Locks) != 1 || len(c.Votes) != 3 || c.Fences != [4]uint32{7, 0, 8, 0} || c.State != api.StateFull || c.Inc != 1 {
		t.Errorf("%+v, %d", c, e)
	}
}

func TestFenceOfWhatMayNotBe(t *testing.T) {
	s := opened(t, 24, 1)
	isOK(t, s.Open(24, 2, 1, false))
	for _, wrong := range wrongReplicas {
		fencesNot(t, s, 24, 1, wrong, 1, api.ErrArg)
		// That is asked ahead of what the store has.
		fencesNot(t, s, 24, 2, wrong, 1, api.ErrArg)
		fencesNot(t, s, 24, 3, wrong, 1, api.ErrArg)
		fencesNot(t, s, 24, wrong, wrong, 1, api.ErrArg)
		fencesNot(t, s, 24, wrong, 0, 0, api.ErrArg)
		fencesNot(t, s, 24, wrong, 0, 1, api.ErrStoreNone)
	}
	for replica := range 4 {
		fencesNot(t, s, 24, replica, replica, 1, api.ErrArg)
		fencesNot(t, s, 25, replica, replica, 1, api.ErrArg)
		for of := range 4 {
			fencesNot(t, s, 24, replica, of, 0, api.ErrArg)
			fencesNot(t, s, -1, replica, of, 0, api.ErrArg)
		}
	}
	fencesNot(t, s, 24, 0, 1, 1, api.ErrStoreNone)
	fencesNot(t, s, 64, 1, 0, 1, api.ErrStoreNone)
	fencesNot(t, s, 24, 2, 1, 1, api.ErrStoreState)
}

// The state is asked ahead of the fence.
func TestOrderOfErrorsOfFence(t *testing.T) {
	s := installed(t, 24, 1, api.Copy{State: api.StateRecovering, Inc: 1, Fences: [4]uint32{9, 9, 9, 9}})
	fencesNot(t, s, 24, 1, 0, 1, api.ErrStoreState)
	fencesNot(t, s, 24, 1, 0, 9, api.ErrStoreState)
	fencesNot(t, s, 24, 1, 1, 9, api.ErrArg)
	s = installed(t, 24, 1, api.Copy{State: api.StateFull, Inc: 1, Fences: [4]uint32{9, 9, 9, 9}})
	fencesNot(t, s, 24, 1, 0, 8, api.ErrStoreInc)
	fences(t, s, 24, 1, 0, 9)
	fences(t, s, 24, 1, 0, 10)
}
