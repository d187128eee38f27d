package store_test

import (
	"testing"

	"tontine/api"
	"tontine/store"
)

// full is a copy without entries.
func full(inc, ver uint32) api.Copy { return api.Copy{State: api.StateFull, Inc: inc, Ver: ver} }

// recovers makes a fresh replica full, and asks for what it holds then.
func recovers(t *testing.T, replica int, l [4]api.Copy, want api.Copy) {
	t.Helper()
	s := store.New()
	isOK(t, s.Open(24, replica, 5, false))
	isOK(t, s.Recover(24, replica, l))
	holds(t, s, 24, replica, want)
	if got := s.State(24, replica); got != api.StateFull {
		t.Errorf("State: %d", got)
	}
	fails(t, s.Recover(24, replica, l), api.ErrStoreState)
	holds(t, s, 24, replica, want)
}

// recoversNot asks for an error of Recover, which changes nothing.
func recoversNot(t *testing.T, s *store.Store, bucket, replica int, l [4]api.Copy, want api.Errno) {
	t.Helper()
	before, had := s.Extract(bucket, replica)
	fails(t, s.Recover(bucket, replica, l), want)
	if after, has := s.Extract(bucket, replica); has != had || !same(after, before) {
		t.Errorf("Recover(%d, %d) made %+v of %+v", bucket, replica, after, before)
	}
}

// othersOf are the three other replicas.
func othersOf(replica int) []int {
	return [4][]int{{1, 2, 3}, {0, 2, 3}, {0, 1, 3}, {0, 1, 2}}[replica]
}

// The version is the greatest one of the three, and the entries those of the first that has it.
func TestRecoverOfVersions(t *testing.T) {
	versions := []uint32{0, 1, 2, 1 << 16, lastVer + 1, 1 << 31, greatest}
	for replica := range 4 {
		others := othersOf(replica)
		for _, a := range versions {
			for _, b := range versions {
				for _, c := range versions {
					var l [4]api.Copy
					l[replica] = api.Copy{State: api.StateFull, Inc: 99, Ver: greatest, Data: entriesOf(24, 4, "own"), Fences: [4]uint32{99, 99, 99, 99}}
					most, value := a, "a"
					if b > most {
						most, value = b, "b"
					}
					if c > most {
						most, value = c, "c"
					}
					for n, of := range others {
						l[of] = full(1, []uint32{a, b, c}[n])
						l[of].Data = entriesOf(24, n+1, []string{"a", "b", "c"}[n])
					}
					want := full(5, most)
					want.Data = entriesOf(24, int(value[0]-'a')+1, value)
					for _, of := range others {
						want.Fences[of] = 1
					}
					recovers(t, replica, l, want)
				}
			}
		}
	}
}

// All locks are taken over, copy by copy, of each transaction the first one.
func TestRecoverOfLocks(t *testing.T) {
	for replica := range 4 {
		others := othersOf(replica)
		var l [4]api.Copy
		l[replica].Locks = []api.Lock{reads(50, 24, 0), writes(3, 24, 9, "own")}
		one, two, three := writes(1, 24, 0, "first"), reads(2, 24, 1), reads(3, 24, 2)
		l[others[0]] = full(1, 0)
		l[others[0]].Locks = []api.Lock{two, one, two}
		l[others[1]] = full(1, 0)
		l[others[1]].Locks = []api.Lock{writes(1, 24, 0, "second"), three}
		l[others[2]] = full(1, 0)
		l[others[2]].Locks = []api.Lock{writes(3, 24, 0, "third"), writes(2, 24, 5, "third"), writes(4, 25, 6, "elsewhere"), {}, {Managers: [3]int{1, 2, 3}}}
		want := full(5, 0)
		want.Locks = []api.Lock{two, one, three, writes(4, 25, 6, "elsewhere"), {}}
		for _, of := range others {
			want.Fences[of] = 1
		}
		recovers(t, replica, l, want)
	}
}

// More locks than votes may take are taken over.
func TestRecoverOfManyLocks(t *testing.T) {
	l := [4]api.Copy{full(1, 0), full(1, 0), full(1, 0), full(1, 0)}
	want := full(5, 0)
	want.Fences = [4]uint32{1, 1, 0, 1}
	for _, of := range []int{0, 1, 3} {
		for tx := range 40 {
			l[of].Locks = append(l[of].Locks, writes(uint64(of*30+tx+1), 24, uint32(of), "v"))
		}
	}
	for tx := range 40 {
		want.Locks = append(want.Locks, writes(uint64(tx+1), 24, 0, "v"))
	}
	for tx := 41; tx <= 70; tx++ {
		want.Locks = append(want.Locks, writes(uint64(tx), 24, 1, "v"))
	}
	for tx := 91; tx <= 130; tx++ {
		want.Locks = append(want.Locks, writes(uint64(tx), 24, 3, "v"))
	}
	recovers(t, 2, l, want)
}

// A fence becomes the greatest of the replica's own one, of what two others say, and of the incarnation of the one whose fence it is.
func TestRecoverOfFences(t *testing.T) {
	for replica := range 4 {
		for _, of := range othersOf(replica) {
			for way := range 4 {
				own := api.Copy{State: api.StateRecovering, Inc: 5}
				l := [4]api.Copy{full(2, 0), full(2, 0), full(2, 0), full(2, 0)}
				var from []int
				for _, other := range othersOf(replica) {
					if other != of {
						from = append(from, other)
					}
				}
				// Each of the four is the greatest one in its turn.
				own.Fences[of], l[of].Inc = 3, 3
				l[from[0]].Fences[of], l[from[1]].Fences[of] = 3, 3
				switch way {
				case 0:
					own.Fences[of] = 8
				case 1:
					l[of].Inc = 8
				default:
					l[from[way-2]].Fences[of] = 8
				}
				// What a copy says of itself, and what there is of the replica that recovers, does not count.
				l[of].Fences[of] = 77
				for _, other := range othersOf(replica) {
					l[other].Fences[replica] = 78
				}
				l[replica] = api.Copy{State: api.StateFull, Inc: 79, Fences: [4]uint32{79, 79, 79, 79}}
				want := full(5, 0)
				for _, other := range from {
					want.Fences[other] = 2
				}
				want.Fences[of] = 8
				s := installed(t, 24, replica, own)
				isOK(t, s.Recover(24, replica, l))
				holds(t, s, 24, replica, want)
			}
		}
	}
}

// What an installed copy holds for itself stays.
func TestRecoverOfTheOwnFence(t *testing.T) {
	own := api.Copy{State: api.StateRecovering, Inc: 5, Fences: [4]uint32{1, 9, 3, 4}}
	s := installed(t, 24, 1, own)
	l := [4]api.Copy{full(2, 0), full(2, 0), full(2, 0), full(2, 0)}
	l[0].Fences, l[2].Fences = [4]uint32{0, 20, 4, 1}, [4]uint32{0, 21, 40, 4}
	isOK(t, s.Recover(24, 1, l))
	holds(t, s, 24, 1, api.Copy{State: api.StateFull, Inc: 5, Fences: [4]uint32{2, 9, 4, 4}})
}

// What the replica held before is gone, but for its incarnation and its fences; a version that was greater, too, as the chapter has it.
func TestRecoverOfWhatItHeld(t *testing.T) {
	own := api.Copy{State: api.StateRecovering, Inc: 5, Ver: 9, Data: entriesOf(24, 2, "own"), Locks: []api.Lock{reads(1, 24, 0)}, Fences: [4]uint32{7, 0, 0, 0}, Votes: []api.Voted{{Tx: 1, Vote: api.VotePrepared}}}
	s := installed(t, 24, 3, own)
	l := [4]api.Copy{full(1, 4), full(1, 6), full(1, 6), {}}
	l[1].Data = entriesOf(24, 1, "new")
	l[0].Votes, l[2].Votes = []api.Voted{{Tx: 9, Vote: api.VoteAbort}}, []api.Voted{{Tx: 8, Vote: api.VoteAbort}}
	isOK(t, s.Recover(24, 3, l))
	holds(t, s, 24, 3, api.Copy{State: api.StateFull, Inc: 5, Ver: 6, Data: entriesOf(24, 1, "new"), Fences: [4]uint32{7, 1, 1, 0}})
	answers(t, s, 24, 3, 5, 6, entriesOf(24, 1, "new"))
}

// Each of the three copies must be full, and have an incarnation; the fourth one is not looked at.
func TestRecoverOfWhatMayNotBe(t *testing.T) {
	bad := []api.Copy{{}, {State: api.StateFull}, {State: api.StateRecovering, Inc: 1}, {State: api.StateNone, Inc: 1}, {State: 3, Inc: 1}, {State: -1, Inc: 1}, {State: 1 << 32, Inc: 1}, {State: api.StateFull + 1<<32, Inc: 1}}
	for replica := range 4 {
		s := store.New()
		isOK(t, s.Open(24, replica, 5, false))
		good := [4]api.Copy{full(1, 2), full(2, 1), full(3, 2), full(4, 1)}
		for _, b := range bad {
			for _, of := range othersOf(replica) {
				l := good
				l[of] = b
				recoversNot(t, s, 24, replica, l, api.ErrStoreForm)
			}
			recoversNot(t, s, 24, replica, [4]api.Copy{b, b, b, b}, api.ErrStoreForm)
		}
		for n, b := range bad {
			l := good
			l[replica] = b
			isOK(t, s.Recover(24, replica, l))
			isOK(t, s.Drop(24, replica))
			isOK(t, s.Open(24, replica, uint32(n+1), false))
		}
	}
}

// The order of the errors: what the store has, its state, the copies.
func TestOrderOfErrorsOfRecover(t *testing.T) {
	s := opened(t, 24, 0)
	bad, good := [4]api.Copy{}, [4]api.Copy{full(1, 2), full(2, 1), full(3, 2), full(4, 1)}
	for _, l := range [][4]api.Copy{bad, good} {
		recoversNot(t, s, 24, 0, l, api.ErrStoreState)
		recoversNot(t, s, 24, 1, l, api.ErrStoreNone)
		recoversNot(t, s, 25, 0, l, api.ErrStoreNone)
		recoversNot(t, s, -1, 0, l, api.ErrStoreNone)
		recoversNot(t, s, 24, 4, l, api.ErrStoreNone)
		recoversNot(t, s, 24, -1, l, api.ErrStoreNone)
	}
}

// A replica that has recovered goes on as any other one, bound by what it took over.
func TestBehindRecover(t *testing.T) {
	l := [4]api.Copy{full(1, 3), full(1, 4), full(2, 4), {}}
	l[1].Data = entriesOf(24, 2, "v")
	l[0].Locks = []api.Lock{reads(7, 24, 4)}
	l[0].Votes = []api.Voted{{Tx: 7, Vote: api.VotePrepared}}
	s := store.New()
	isOK(t, s.Open(24, 3, 5, false))
	isOK(t, s.Recover(24, 3, l))
	answers(t, s, 24, 3, 5, 4, entriesOf(24, 2, "v"))
	votesNot(t, s, 3, with(reads(8, 24, 4), 1, 1, 2, 4), api.ErrStoreInc)
	votes(t, s, 3, with(writes(9, 24, 4, "w"), 1, 1, 2, 5), api.VoteAbort)
	votes(t, s, 3, with(reads(10, 24, 4), 1, 1, 1, 5), api.VoteAbort)
	votes(t, s, 3, with(reads(11, 24, 3), 1, 1, 2, 5), api.VoteAbort)
	votes(t, s, 3, with(reads(12, 24, 4), 1, 1, 2, 5), api.VotePrepared)
	// Its own vote on the transaction whose lock it took over was never given.
	votes(t, s, 3, with(reads(7, 24, 4), 1, 1, 2, 5), api.VotePrepared)
	decides(t, s, 3, reads(7, 24, 4), true)
	decides(t, s, 3, reads(12, 24, 4), true)
	if c := extracted(t, s, 24, 3); len(c.Locks) != 0 {
		t.Errorf("%+v", c.Locks)
	}
	fencesNot(t, s, 24, 3, 2, 1, api.ErrStoreInc)
	fences(t, s, 24, 3, 2, 3)
}
