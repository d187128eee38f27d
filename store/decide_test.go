package store_test

import (
	"testing"

	"tontine/api"
	"tontine/store"
)

// What is committed and written makes the version one more than the one that was read, unless the replica is there or further.
func TestDecideOfVersions(t *testing.T) {
	versions := []uint32{0, 1, 2, 3, 255, 256, 1 << 16, 1 << 30, lastVer - 1, lastVer, lastVer + 1, lastVer + 2, 1<<31 + 1, greatest - 1, greatest}
	for _, has := range versions {
		for _, ver := range versions {
			if ver > lastVer {
				continue
			}
			old, now := entriesOf(24, 3, "old"), entriesOf(24, 2, "now")
			c := api.Copy{State: api.StateFull, Inc: 1, Ver: has, Data: old}
			l := writes(1, 24, ver, "now")
			l.Item.Data = now
			for _, commit := range []bool{true, false} {
				s := installed(t, 24, 0, c)
				decides(t, s, 0, l, commit)
				if commit && ver >= has {
					answers(t, s, 24, 0, 1, ver+1, now)
				} else {
					answers(t, s, 24, 0, 1, has, old)
				}
			}
			s := installed(t, 24, 0, c)
			decides(t, s, 0, reads(1, 24, ver), true)
			answers(t, s, 24, 0, 1, has, old)
		}
	}
}

// The entries are those of the item: what was there before is gone.
func TestDecideOfEntries(t *testing.T) {
	s := opened(t, 24, 0)
	for ver, l := range [][]api.Entry{entriesOf(24, 8, "a"), {{Key: "a"}}, nil, {{Key: "b", Value: "1"}, {Key: "c", Value: "2"}}, {}} {
		w := reads(uint64(ver+1), 24, uint32(ver))
		w.Item.Write, w.Item.Data = true, l
		votes(t, s, 0, w, api.VotePrepared)
		decides(t, s, 0, w, true)
		answers(t, s, 24, 0, 1, uint32(ver+1), l)
	}
}

// A decision that comes again, or late, is applied once.
func TestDecideTwice(t *testing.T) {
	s := opened(t, 24, 0)
	one, two := writes(1, 24, 0, "one"), writes(2, 24, 1, "two")
	votes(t, s, 0, one, api.VotePrepared)
	decides(t, s, 0, one, true)
	votes(t, s, 0, two, api.VotePrepared)
	for range 3 {
		decides(t, s, 0, one, true)
		holds(t, s, 24, 0, api.Copy{State: api.StateFull, Inc: 1, Ver: 1, Data: entriesOf(24, 1, "one"), Locks: []api.Lock{two}, Votes: []api.Voted{{Tx: 1, Vote: api.VotePrepared}, {Tx: 2, Vote: api.VotePrepared}}})
	}
	for range 3 {
		decides(t, s, 0, two, true)
		decides(t, s, 0, one, true)
		answers(t, s, 24, 0, 1, 2, entriesOf(24, 1, "two"))
	}
}

// The incarnations of the item do not count: a replica that was made anew applies what it missed.
func TestDecideOfOtherIncarnations(t *testing.T) {
	s := store.New()
	isOK(t, s.Open(24, 0, 5, true))
	decides(t, s, 0, with(writes(1, 24, 3, "v"), 1, 1, 1, 0), true)
	answers(t, s, 24, 0, 5, 4, entriesOf(24, 1, "v"))
	decides(t, s, 0, with(writes(2, 24, 4, "w"), 0, 1, 1, 1), true)
	answers(t, s, 24, 0, 5, 5, entriesOf(24, 1, "w"))
	_, e := s.Fence(24, 0, 1, 9)
	isOK(t, e)
	decides(t, s, 0, writes(3, 24, 5, "x"), true)
	answers(t, s, 24, 0, 5, 6, entriesOf(24, 1, "x"))
}

// All locks of the transaction go, wherever they stand, and those of others stay in their order.
func TestDecideOfLocks(t *testing.T) {
	for set := range 64 {
		c := api.Copy{State: api.StateFull, Inc: 1}
		var rest []api.Lock
		for n := range 6 {
			l := reads(uint64(100+n), 24, uint32(n))
			if set>>n&1 == 1 {
				l.Tx = 7
			} else {
				rest = append(rest, l)
			}
			c.Locks = append(c.Locks, l)
		}
		for _, commit := range []bool{true, false} {
			s := installed(t, 24, 0, c)
			decides(t, s, 0, reads(7, 24, 3), commit)
			holds(t, s, 24, 0, api.Copy{State: api.StateFull, Inc: 1, Locks: rest, Votes: []api.Voted{{Tx: 7, Vote: api.VoteAbort}}})
		}
	}
}

// The locks of others that conflict with what is decided stay too.
func TestDecideBesideOtherLocks(t *testing.T) {
	s := opened(t, 24, 0)
	other := writes(1, 24, 0, "one")
	votes(t, s, 0, other, api.VotePrepared)
	decides(t, s, 0, writes(2, 24, 0, "two"), true)
	holds(t, s, 24, 0, api.Copy{State: api.StateFull, Inc: 1, Ver: 1, Data: entriesOf(24, 1, "two"), Locks: []api.Lock{other}, Votes: []api.Voted{{Tx: 1, Vote: api.VotePrepared}, {Tx: 2, Vote: api.VoteAbort}}})
}

// Who hears of a decision before it has voted votes to abort from then on.
func TestDecideBeforeTheVote(t *testing.T) {
	for _, commit := range []bool{true, false} {
		s := opened(t, 24, 0)
		l := reads(7, 24, 0)
		decides(t, s, 0, l, commit)
		want := api.Copy{State: api.StateFull, Inc: 1, Votes: []api.Voted{{Tx: 7, Vote: api.VoteAbort}}}
		holds(t, s, 24, 0, want)
		votes(t, s, 0, l, api.VoteAbort)
		decides(t, s, 0, l, commit)
		holds(t, s, 24, 0, want)
	}
}

// Who has voted leaves its vote as it is.
func TestDecideBehindTheVote(t *testing.T) {
	for _, commit := range []bool{true, false} {
		s := opened(t, 24, 0)
		votes(t, s, 0, reads(7, 24, 0), api.VotePrepared)
		votes(t, s, 0, writes(8, 24, 0, "v"), api.VoteAbort)
		decides(t, s, 0, writes(8, 24, 0, "v"), commit)
		decides(t, s, 0, reads(7, 24, 0), commit)
		c := extracted(t, s, 24, 0)
		if len(c.Votes) != 2 || c.Votes[0] != (api.Voted{Tx: 7, Vote: api.VotePrepared}) || c.Votes[1] != (api.Voted{Tx: 8, Vote: api.VoteAbort}) || len(c.Locks) != 0 {
			t.Errorf("%+v", c)
		}
	}
}

// Where no vote can be remembered any more the decision is applied all the same.
func TestDecideOfManyTransactions(t *testing.T) {
	for n := 60; n < 70; n++ {
		c := api.Copy{State: api.StateFull, Inc: 1, Locks: []api.Lock{reads(7, 24, 0)}}
		for tx := range uint64(n) {
			c.Votes = append(c.Votes, api.Voted{Tx: 1000 + tx, Vote: api.VotePrepared})
		}
		s := installed(t, 24, 0, c)
		decides(t, s, 0, writes(7, 24, 0, "v"), true)
		want := api.Copy{State: api.StateFull, Inc: 1, Ver: 1, Data: entriesOf(24, 1, "v"), Votes: c.Votes}
		if n < mostVotes {
			want.Votes = append(append([]api.Voted(nil), c.Votes...), api.Voted{Tx: 7, Vote: api.VoteAbort})
		}
		holds(t, s, 24, 0, want)
	}
}

// Votes that were never given, as a copy may have them, do not count as given.
func TestDecideBesideVotesThatAreNone(t *testing.T) {
	c := api.Copy{State: api.StateFull, Inc: 1, Votes: []api.Voted{{Tx: 7, Vote: api.VoteNone}, {Tx: 7, Vote: api.VotePrepared}, {Tx: 8, Vote: 9}}}
	s := installed(t, 24, 0, c)
	for range 3 {
		decides(t, s, 0, reads(7, 24, 0), false)
		decides(t, s, 0, reads(8, 24, 0), false)
		c.Votes = append(c.Votes, api.Voted{Tx: 7, Vote: api.VoteAbort})
		holds(t, s, 24, 0, c)
	}
}

// The fences and the incarnation stay as they are.
func TestDecideLeavesTheRest(t *testing.T) {
	c := api.Copy{State: api.StateFull, Inc: 6, Ver: 2, Data: entriesOf(24, 2, "v"), Fences: [4]uint32{1, 2, 3, 4}}
	s := installed(t, 24, 1, c)
	decides(t, s, 1, writes(7, 24, 2, "w"), true)
	c.Ver, c.Data, c.Votes = 3, entriesOf(24, 1, "w"), []api.Voted{{Tx: 7, Vote: api.VoteAbort}}
	holds(t, s, 24, 1, c)
}
