package store

import "tontine/api"

// Fence raises a fence, and tells the copy.
func (s *Store) Fence(bucket, replica, of int, inc uint32) (api.Copy, api.Errno) {
	if of < 0 || of >= api.Replicas || of == replica || inc == 0 {
		return api.Copy{}, api.ErrArg
	}
	r, e := s.findFull(bucket, replica)
	if e != api.OK {
		return api.Copy{}, e
	}
	if inc < r.Fences[of] {
		return api.Copy{}, api.ErrStoreInc
	}
	r.Fences[of] = inc
	return cloneCopy(r.Copy), api.OK
}

// Recover makes a replica full, out of the three others.
func (s *Store) Recover(bucket, replica int, l [4]api.Copy) api.Errno {
	r, e := s.find(bucket, replica)
	if e != api.OK {
		return e
	}
	if r.State != api.StateRecovering {
		return api.ErrStoreState
	}
	others := r.others()
	for _, of := range others {
		if l[of].State != api.StateFull || l[of].Inc == 0 {
			return api.ErrStoreForm
		}
	}
	newest := newestOf(l, others)
	r.Ver, r.Data = newest.Ver, cloneEntries(newest.Data)
	r.Locks = locksOf(l, others)
	r.raiseFences(l)
	r.Votes = nil
	r.State = api.StateFull
	return api.OK
}

// others are the three other replicas.
func (r *row) others() []int {
	var l []int
	for of := range api.Replicas {
		if of != r.replica {
			l = append(l, of)
		}
	}
	return l
}

// newestOf is the first of the copies with the greatest version.
func newestOf(l [4]api.Copy, others []int) api.Copy {
	newest := l[others[0]]
	for _, of := range others {
		if l[of].Ver > newest.Ver {
			newest = l[of]
		}
	}
	return newest
}

// locksOf are the locks of the copies, of each transaction the first one.
func locksOf(l [4]api.Copy, others []int) []api.Lock {
	var locks []api.Lock
	seen := map[uint64]struct{}{}
	for _, of := range others {
		for _, lock := range l[of].Locks {
			if _, is := seen[lock.Tx]; !is {
				seen[lock.Tx] = struct{}{}
				locks = append(locks, cloneLock(lock))
			}
		}
	}
	return locks
}

// raiseFences raises the fences to what the three other replicas are, and to what they say of each other.
func (r *row) raiseFences(l [4]api.Copy) {
	for _, of := range r.others() {
		r.Fences[of] = max(r.Fences[of], l[of].Inc)
		for _, from := range r.others() {
			// None of them has a fence for itself.
			if from != of {
				r.Fences[of] = max(r.Fences[of], l[from].Fences[of])
			}
		}
	}
}
