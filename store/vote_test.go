package store_test

import (
	"testing"

	"tontine/api"
	"tontine/store"
)

// A vote that prepares takes the lock, as the last one; one that does not leaves the locks as they are. Both are remembered, in their order.
func TestVotesAreRemembered(t *testing.T) {
	s := opened(t, 24, 0)
	one, two, three := reads(3, 24, 0), reads(2, 24, 5), writes(9, 24, 0, "v")
	one.Managers, two.Managers = [3]int{4, 5, 6}, [3]int{11, 0, 7}
	votes(t, s, 0, one, api.VotePrepared)
	votes(t, s, 0, two, api.VotePrepared)
	votes(t, s, 0, three, api.VoteAbort)
	want := api.Copy{State: api.StateFull, Inc: 1, Locks: []api.Lock{one, two}, Votes: []api.Voted{{Tx: 3, Vote: api.VotePrepared}, {Tx: 2, Vote: api.VotePrepared}, {Tx: 9, Vote: api.VoteAbort}}}
	holds(t, s, 24, 0, want)
	for range 3 {
		votes(t, s, 0, three, api.VoteAbort)
		votes(t, s, 0, one, api.VotePrepared)
		votes(t, s, 0, two, api.VotePrepared)
		holds(t, s, 24, 0, want)
	}
}

// A vote stays as it is whatever comes: another item of that transaction, a decision, locks that are gone, a version that fits.
func TestVotesStay(t *testing.T) {
	s := opened(t, 24, 0)
	votes(t, s, 0, writes(1, 24, 0, "v"), api.VotePrepared)
	votes(t, s, 0, writes(2, 24, 0, "w"), api.VoteAbort)
	votes(t, s, 0, reads(1, 24, 9), api.VotePrepared)
	votes(t, s, 0, reads(2, 24, 9), api.VoteAbort)
	decides(t, s, 0, writes(1, 24, 0, "v"), true)
	votes(t, s, 0, writes(1, 24, 0, "v"), api.VotePrepared)
	votes(t, s, 0, writes(2, 24, 1, "w"), api.VoteAbort)
	want := api.Copy{State: api.StateFull, Inc: 1, Ver: 1, Data: entriesOf(24, 1, "v"), Votes: []api.Voted{{Tx: 1, Vote: api.VotePrepared}, {Tx: 2, Vote: api.VoteAbort}}}
	holds(t, s, 24, 0, want)
	_, e := s.Fence(24, 0, 2, 8)
	isOK(t, e)
	want.Fences[2] = 8
	votes(t, s, 0, writes(1, 24, 0, "v"), api.VotePrepared)
	decides(t, s, 0, writes(1, 24, 0, "v"), false)
	votes(t, s, 0, writes(1, 24, 0, "v"), api.VotePrepared)
	holds(t, s, 24, 0, want)
}

// Two that read may be there together; whoever writes is there alone.
func TestConflicts(t *testing.T) {
	for first := range 2 {
		for second := range 2 {
			l := []api.Lock{reads(1, 24, 0), writes(2, 24, 0, "v")}
			held, next := l[first], l[second]
			next.Tx += 10
			s := opened(t, 24, 0)
			votes(t, s, 0, held, api.VotePrepared)
			want := api.VoteAbort
			if first+second == 0 {
				want = api.VotePrepared
			}
			votes(t, s, 0, next, want)
		}
	}
	// Each lock that is held is asked for, not one of them alone.
	for at := range 5 {
		c := api.Copy{State: api.StateFull, Inc: 1}
		for tx := range uint64(5) {
			l := reads(tx+1, 24, 0)
			if int(tx) == at {
				l = writes(tx+1, 24, 0, "v")
			}
			c.Locks = append(c.Locks, l)
		}
		s := installed(t, 24, 0, c)
		votes(t, s, 0, reads(9, 24, 0), api.VoteAbort)
		votes(t, s, 0, writes(10, 24, 0, "v"), api.VoteAbort)
		decides(t, s, 0, c.Locks[at], false)
		votes(t, s, 0, reads(11, 24, 0), api.VotePrepared)
		votes(t, s, 0, writes(12, 24, 0, "v"), api.VoteAbort)
	}
}

// A delete of all that a bucket has is a write without entries, and conflicts as any other.
func TestConflictsOfEmptyWrites(t *testing.T) {
	s := opened(t, 24, 0)
	l := reads(1, 24, 0)
	l.Item.Write = true
	votes(t, s, 0, l, api.VotePrepared)
	votes(t, s, 0, reads(2, 24, 0), api.VoteAbort)
	decides(t, s, 0, l, true)
	answers(t, s, 24, 0, 1, 1, nil)
}

// Locks of the same transaction conflict as those of two: a replica whose votes are gone may hold one.
func TestConflictsWithItself(t *testing.T) {
	for _, c := range []struct {
		held, next api.Lock
		want       api.Vote
	}{
		{writes(7, 24, 0, "v"), writes(7, 24, 0, "v"), api.VoteAbort},
		{writes(7, 24, 0, "v"), reads(7, 24, 0), api.VoteAbort},
		{reads(7, 24, 0), writes(7, 24, 0, "v"), api.VoteAbort},
		{reads(7, 24, 0), reads(7, 24, 0), api.VotePrepared},
	} {
		s := installed(t, 24, 0, api.Copy{State: api.StateFull, Inc: 1, Locks: []api.Lock{c.held}})
		votes(t, s, 0, c.next, c.want)
		want := api.Copy{State: api.StateFull, Inc: 1, Locks: []api.Lock{c.held}, Votes: []api.Voted{{Tx: 7, Vote: c.want}}}
		if c.want == api.VotePrepared {
			want.Locks = append(want.Locks, c.next)
		}
		holds(t, s, 24, 0, want)
		decides(t, s, 0, c.next, false)
		want.Locks = nil
		holds(t, s, 24, 0, want)
	}
}

// A version that was read may be greater than the replica's, which has missed some then; not less.
func TestVoteOfVersions(t *testing.T) {
	versions := []uint32{0, 1, 2, 3, 255, 256, 1 << 16, 1 << 30, lastVer - 1, lastVer, lastVer + 1, 1 << 31, greatest}
	for _, has := range versions {
		for _, ver := range versions {
			if ver > lastVer {
				continue
			}
			for replica := range 4 {
				s := installed(t, 24, replica, api.Copy{State: api.StateFull, Inc: 1, Ver: has})
				want := api.VoteAbort
				if has <= ver {
					want = api.VotePrepared
				}
				votes(t, s, replica, reads(1, 24, ver), want)
				s = installed(t, 24, replica, api.Copy{State: api.StateFull, Inc: 1, Ver: has})
				votes(t, s, replica, writes(1, 24, ver, "v"), want)
				answers(t, s, 24, replica, 1, has, nil)
			}
		}
	}
}

// The incarnation of the replica itself must be the one that was read.
func TestVoteOfIncarnations(t *testing.T) {
	all := []uint32{1, 2, 3, 255, 256, 257, 1 << 16, 1<<16 + 1, 1 << 31, greatest - 1, greatest}
	for replica := range 4 {
		for _, inc := range all {
			for _, read := range append([]uint32{0}, all...) {
				s := store.New()
				isOK(t, s.Open(24, replica, inc, true))
				l := reads(1, 24, 0)
				l.Item.Incs = [4]uint32{7, 7, 7, 7}
				l.Item.Incs[replica] = read
				if read == inc {
					votes(t, s, replica, l, api.VotePrepared)
				} else {
					votesNot(t, s, replica, l, api.ErrStoreInc)
				}
			}
		}
	}
}

// Of each other replica the incarnation that was read is not below the fence; of those that were not read, the fence does not count.
func TestVoteOfFences(t *testing.T) {
	some := []uint32{1, 2, 5, 1 << 8, 1 << 31, greatest}
	for replica := range 4 {
		for of := range 4 {
			if of == replica {
				continue
			}
			for _, fence := range some {
				for _, read := range append([]uint32{0}, some...) {
					s := opened(t, 24, replica)
					_, e := s.Fence(24, replica, of, fence)
					isOK(t, e)
					l := reads(1, 24, 0)
					l.Item.Incs[of] = read
					want := api.VoteAbort
					if read == 0 || read >= fence {
						want = api.VotePrepared
					}
					votes(t, s, replica, l, want)
				}
			}
		}
	}
}

// One fence of three is enough, and those that were not read beside it change nothing.
func TestVoteOfSeveralFences(t *testing.T) {
	for set := range 8 {
		s := opened(t, 24, 2)
		l := with(reads(1, 24, 0), 5, 5, 1, 5)
		want := api.VotePrepared
		for n, of := range []int{0, 1, 3} {
			inc := uint32(5)
			if set>>n&1 == 1 {
				inc, want = 6, api.VoteAbort
			}
			_, e := s.Fence(24, 2, of, inc)
			isOK(t, e)
		}
		votes(t, s, 2, l, want)
	}
}

// A copy that was installed may tell of a fence for the replica itself: it does not count.
func TestVoteOfTheOwnFence(t *testing.T) {
	for replica := range 4 {
		c := api.Copy{State: api.StateFull, Inc: 1}
		c.Fences[replica] = 9
		s := installed(t, 24, replica, c)
		votes(t, s, replica, reads(1, 24, 0), api.VotePrepared)
	}
}

// Sixteen locks are held at the most.
func TestVoteOfManyLocks(t *testing.T) {
	s := opened(t, 24, 0)
	for tx := range uint64(mostHeld) {
		votes(t, s, 0, reads(tx+1, 24, 0), api.VotePrepared)
	}
	votes(t, s, 0, reads(17, 24, 0), api.VoteAbort)
	votes(t, s, 0, reads(18, 24, 0), api.VoteAbort)
	votes(t, s, 0, reads(16, 24, 0), api.VotePrepared)
	decides(t, s, 0, reads(5, 24, 0), true)
	votes(t, s, 0, reads(17, 24, 0), api.VoteAbort)
	votes(t, s, 0, reads(19, 24, 0), api.VotePrepared)
	votes(t, s, 0, reads(20, 24, 0), api.VoteAbort)
	c := extracted(t, s, 24, 0)
	if len(c.Locks) != mostHeld || c.Locks[3].Tx != 4 || c.Locks[4].Tx != 6 || c.Locks[15].Tx != 19 || len(c.Votes) != 20 {
		t.Errorf("%+v", c)
	}
}

// A replica that came with more locks takes none till it holds fewer.
func TestVoteOfMoreLocksThanMayBe(t *testing.T) {
	c := api.Copy{State: api.StateFull, Inc: 1}
	for tx := range uint64(20) {
		c.Locks = append(c.Locks, reads(tx+1, 24, 0))
	}
	s := installed(t, 24, 0, c)
	for tx := range uint64(10) {
		want := api.VoteAbort
		if 20-tx < mostHeld {
			want = api.VotePrepared
		}
		votes(t, s, 0, reads(100+tx, 24, 0), want)
		if want == api.VotePrepared {
			decides(t, s, 0, reads(100+tx, 24, 0), false)
		}
		decides(t, s, 0, reads(tx+1, 24, 0), false)
	}
}

// Sixty-four votes are remembered at the most: behind that nobody new is told anything, and the old ones are told as before.
func TestVoteOfManyTransactions(t *testing.T) {
	s := opened(t, 24, 0)
	for tx := range uint64(mostVotes) {
		l := writes(tx+1, 24, 0, "v")
		want := api.VoteAbort
		if tx%3 == 0 {
			want = api.VotePrepared
		}
		if tx%3 == 1 {
			decides(t, s, 0, writes(tx, 24, 0, "v"), false)
			l.Item.Incs = [4]uint32{1, 0, 1, 1}
			_, e := s.Fence(24, 0, 2, 2)
			isOK(t, e)
		} else {
			l.Item.Incs = [4]uint32{1, 1, 2, 1}
		}
		if tx%3 == 2 {
			l.Item.Incs = [4]uint32{1, 1, 1, 1}
		}
		votes(t, s, 0, l, want)
	}
	votesNot(t, s, 0, reads(65, 24, 0), api.ErrStoreFull)
	votesNot(t, s, 0, writes(66, 24, 0, "v"), api.ErrStoreFull)
	votesNot(t, s, 0, with(reads(65, 24, 0), 2, 1, 1, 1), api.ErrStoreInc)
	for tx := range uint64(mostVotes) {
		want := api.VoteAbort
		if tx%3 == 0 {
			want = api.VotePrepared
		}
		votes(t, s, 0, reads(tx+1, 24, 9), want)
	}
	// A decision makes no room.
	decides(t, s, 0, writes(64, 24, 0, "v"), false)
	votesNot(t, s, 0, reads(65, 24, 0), api.ErrStoreFull)
}

// The 64th vote is given still, also where what came with the replica makes up the others.
func TestVoteOfTheLastTransaction(t *testing.T) {
	for n := 60; n < 70; n++ {
		c := api.Copy{State: api.StateFull, Inc: 1}
		for tx := range uint64(n) {
			c.Votes = append(c.Votes, api.Voted{Tx: 1000 + tx, Vote: api.VoteAbort})
		}
		s := installed(t, 24, 0, c)
		if n < mostVotes {
			votes(t, s, 0, reads(1, 24, 0), api.VotePrepared)
		} else {
			votesNot(t, s, 0, reads(1, 24, 0), api.ErrStoreFull)
		}
		votes(t, s, 0, reads(1000, 24, 0), api.VoteAbort)
	}
}

// Of several votes on a transaction the first one counts; as long as that is none, none was given.
func TestVotesThatCameWithTheReplica(t *testing.T) {
	c := api.Copy{State: api.StateFull, Inc: 1, Votes: []api.Voted{{Tx: 1, Vote: api.VoteAbort}, {Tx: 1, Vote: api.VotePrepared}, {Tx: 2, Vote: api.VoteNone}, {Tx: 2, Vote: api.VoteAbort}, {Tx: 3, Vote: 7}, {Tx: 4, Vote: -1}, {Tx: 5, Vote: api.VotePrepared}, {Tx: 5, Vote: api.VoteNone}}}
	s := installed(t, 24, 0, c)
	votes(t, s, 0, reads(1, 24, 0), api.VoteAbort)
	votes(t, s, 0, reads(3, 24, 0), 7)
	votes(t, s, 0, reads(4, 24, 0), -1)
	votes(t, s, 0, reads(5, 24, 0), api.VotePrepared)
	holds(t, s, 24, 0, c)
	for n := range 2 {
		votes(t, s, 0, reads(2, 24, 0), api.VotePrepared)
		c.Votes = append(c.Votes, api.Voted{Tx: 2, Vote: api.VotePrepared})
		c.Locks = append(c.Locks, reads(2, 24, 0))
		holds(t, s, 24, 0, c)
		if len(c.Locks) != n+1 {
			t.Errorf("%+v", c)
		}
	}
	decides(t, s, 0, reads(2, 24, 0), false)
	c.Locks = nil
	c.Votes = append(c.Votes, api.Voted{Tx: 2, Vote: api.VoteAbort})
	holds(t, s, 24, 0, c)
	votes(t, s, 0, reads(2, 24, 0), api.VotePrepared)
}

// The order of the errors: what is wrong with the lock, what the store has, its state, its incarnation, its votes.
func TestOrderOfErrorsOfVote(t *testing.T) {
	c := api.Copy{State: api.StateFull, Inc: 2}
	for tx := range uint64(mostVotes) {
		c.Votes = append(c.Votes, api.Voted{Tx: 1000 + tx, Vote: api.VotePrepared})
	}
	s := installed(t, 24, 0, c)
	isOK(t, s.Open(24, 1, 2, false))
	bad := reads(0, 24, 0)
	for replica := -1; replica <= 4; replica++ {
		votesNot(t, s, replica, bad, api.ErrStoreForm)
		decidesNot(t, s, replica, bad, api.ErrStoreForm)
	}
	votesNot(t, s, 2, reads(1, 24, 0), api.ErrStoreNone)
	votesNot(t, s, 1, reads(1, 24, 0), api.ErrStoreState)
	votesNot(t, s, 0, reads(1, 24, 0), api.ErrStoreInc)
	votesNot(t, s, 0, reads(1000, 24, 0), api.ErrStoreInc)
	votesNot(t, s, 0, with(reads(1, 24, 0), 0, 2, 2, 2), api.ErrStoreInc)
	votesNot(t, s, 0, with(reads(1, 24, 0), 2, 0, 2, 2), api.ErrStoreFull)
	votes(t, s, 0, with(reads(1000, 24, 0), 2, 0, 2, 2), api.VotePrepared)
	decidesNot(t, s, 2, reads(1, 24, 0), api.ErrStoreNone)
	decidesNot(t, s, 1, reads(1, 24, 0), api.ErrStoreState)
}

// The bucket of a lock is its item's, and the replica the one that is asked.
func TestVoteOfTheRightReplica(t *testing.T) {
	s := opened(t, 24, 0)
	isOK(t, s.Open(24, 3, 1, true))
	isOK(t, s.Open(27, 0, 1, true))
	votes(t, s, 0, writes(1, 24, 0, "a"), api.VotePrepared)
	votes(t, s, 3, writes(2, 24, 0, "b"), api.VotePrepared)
	votes(t, s, 0, writes(3, 27, 0, "c"), api.VotePrepared)
	votes(t, s, 3, writes(1, 24, 0, "a"), api.VoteAbort)
	votes(t, s, 0, writes(2, 24, 0, "b"), api.VoteAbort)
	decides(t, s, 0, writes(1, 24, 0, "a"), true)
	decides(t, s, 0, writes(3, 27, 3, "c"), true)
	answers(t, s, 24, 0, 1, 1, entriesOf(24, 1, "a"))
	answers(t, s, 24, 3, 1, 0, nil)
	answers(t, s, 27, 0, 1, 4, entriesOf(27, 1, "c"))
}
