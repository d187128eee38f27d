package store

import (
	"slices"

	"tontine/api"
)

// Vote is a replica's vote on a transaction.
func (s *Store) Vote(replica int, l api.Lock) (api.Vote, api.Errno) {
	r, e := s.findFor(replica, l)
	if e != api.OK {
		return api.VoteNone, e
	}
	if l.Item.Incs[replica] != r.Inc {
		return api.VoteNone, api.ErrStoreInc
	}
	if v := r.voted(l.Tx); v != api.VoteNone {
		return v, api.OK
	}
	if r.remembersAll() {
		return api.VoteNone, api.ErrStoreFull
	}
	v := api.VoteAbort
	if r.mayPrepare(l) {
		v = api.VotePrepared
		r.Locks = append(r.Locks, cloneLock(l))
	}
	r.Votes = append(r.Votes, api.Voted{Tx: l.Tx, Vote: v})
	return v, api.OK
}

// Decide applies a decision.
func (s *Store) Decide(replica int, l api.Lock, commit bool) api.Errno {
	r, e := s.findFor(replica, l)
	if e != api.OK {
		return e
	}
	// A replica that was made full meanwhile, or to which this comes again, may be ahead.
	if commit && l.Item.Write && l.Item.Ver+1 > r.Ver {
		r.Ver, r.Data = l.Item.Ver+1, cloneEntries(l.Item.Data)
	}
	r.Locks = slices.DeleteFunc(r.Locks, func(held api.Lock) bool { return held.Tx == l.Tx })
	// A request to vote that comes late must take no lock, which nothing would remove.
	if r.voted(l.Tx) == api.VoteNone && !r.remembersAll() {
		r.Votes = append(r.Votes, api.Voted{Tx: l.Tx, Vote: api.VoteAbort})
	}
	return api.OK
}

// findFor is the replica that a lock concerns.
func (s *Store) findFor(replica int, l api.Lock) (*row, api.Errno) {
	if s == nil {
		return nil, api.ErrArg
	}
	if !isLock(l) {
		return nil, api.ErrStoreForm
	}
	return s.findFull(l.Item.Bucket, replica)
}

// voted is the vote that was given on a transaction; of several the first one counts.
func (r *row) voted(tx uint64) api.Vote {
	for _, v := range r.Votes {
		if v.Tx == tx {
			return v.Vote
		}
	}
	return api.VoteNone
}

func (r *row) remembersAll() bool { return len(r.Votes) >= api.MaxTxs }

// mayPrepare tells whether what a transaction read holds still, and nothing that another one holds is in its way.
func (r *row) mayPrepare(l api.Lock) bool {
	if r.isFenced(l.Item) || r.Ver > l.Item.Ver || len(r.Locks) >= api.MaxHeld {
		return false
	}
	return !slices.ContainsFunc(r.Locks, func(held api.Lock) bool { return conflict(held, l) })
}

// isFenced tells whether an answer that does not count was read.
func (r *row) isFenced(i api.Item) bool {
	for of, fence := range r.Fences {
		if inc := i.Incs[of]; of != r.replica && inc != 0 && inc < fence {
			return true
		}
	}
	return false
}

// conflict tells whether two locks of a bucket may not be held together.
func conflict(a, b api.Lock) bool { return a.Item.Write || b.Item.Write }
