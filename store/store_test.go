package store_test

import (
	"math"
	"reflect"
	"strings"
	"testing"

	"tontine/api"
	"tontine/store"
)

// The calls, as the chapter lists them.
var (
	_ func(api.Item) bool                                             = store.Right
	_ func() *store.Store                                             = store.New
	_ func(*store.Store, int, int, uint32, bool) api.Errno            = (*store.Store).Open
	_ func(*store.Store, int, int) api.Errno                          = (*store.Store).Drop
	_ func(*store.Store, int, int) api.State                          = (*store.Store).State
	_ func(*store.Store, int, int) (api.Answer, api.Errno)            = (*store.Store).Read
	_ func(*store.Store, int, api.Lock) (api.Vote, api.Errno)         = (*store.Store).Vote
	_ func(*store.Store, int, api.Lock, bool) api.Errno               = (*store.Store).Decide
	_ func(*store.Store, int, int, int, uint32) (api.Copy, api.Errno) = (*store.Store).Fence
	_ func(*store.Store, int, int, [4]api.Copy) api.Errno             = (*store.Store).Recover
	_ func(*store.Store, int, int) (copied api.Copy, e api.Errno)     = (*store.Store).Extract
	_ func(s *store.Store, bucket, replica int, c api.Copy) api.Errno = (*store.Store).Install
)

// Numbers of the chapter, written a second time.
const (
	mostEntries = 8
	mostHeld    = 16
	mostVotes   = 64
	lastBucket  = 63
	lastVer     = 1<<31 - 2 // the greatest version that an item may have
	greatest    = math.MaxUint32
)

// Numbers that are no bucket's and no replica's, some of which look like one in fewer bits.
var wrongNumbers = []int{math.MinInt, math.MinInt + 1, -(1 << 32), -(1 << 32) + 3, -256, -64, -4, -1, 64, 65, 255, 256, 257, 1 << 16, 1<<16 + 3, 1 << 31, 1 << 32, 1<<32 + 3, math.MaxInt - 1, math.MaxInt}

var wrongReplicas = append([]int{4, 5, 8, 63}, wrongNumbers...)

// incs are the incarnations of a bucket that was read as a whole, none of which was ever taken.
var incs = [4]uint32{1, 1, 1, 1}

// keyOf is the n-th key of a bucket.
func keyOf(bucket, n int) string { return string([]byte{byte(bucket << 2), 'k', byte(n)}) }

// entriesOf are so many entries of a bucket, all with one value.
func entriesOf(bucket, n int, value string) []api.Entry {
	var l []api.Entry
	for i := range n {
		l = append(l, api.Entry{Key: keyOf(bucket, i), Value: value})
	}
	return l
}

// reads is a transaction's lock that reads a bucket in a version.
func reads(tx uint64, bucket int, ver uint32) api.Lock {
	return api.Lock{Tx: tx, Managers: [3]int{0, 1, 2}, Item: api.Item{Bucket: bucket, Ver: ver, Incs: incs}}
}

// writes is one that writes one entry, too.
func writes(tx uint64, bucket int, ver uint32, value string) api.Lock {
	l := reads(tx, bucket, ver)
	l.Item.Write, l.Item.Data = true, entriesOf(bucket, 1, value)
	return l
}

// with is a lock whose item was read in these incarnations.
func with(l api.Lock, incs ...uint32) api.Lock {
	l.Item.Incs = [4]uint32(incs)
	return l
}

// tidy makes all empty slices of a copy nil, so that two that are the same are the same to reflect.
func tidy(c api.Copy) api.Copy {
	c.Data = append([]api.Entry(nil), c.Data...)
	c.Votes = append([]api.Voted(nil), c.Votes...)
	locks := c.Locks
	c.Locks = nil
	for _, l := range locks {
		l.Item.Data = append([]api.Entry(nil), l.Item.Data...)
		c.Locks = append(c.Locks, l)
	}
	return c
}

func same(a, b api.Copy) bool { return reflect.DeepEqual(tidy(a), tidy(b)) }

func sameEntries(a, b []api.Entry) bool {
	return same(api.Copy{Data: a}, api.Copy{Data: b})
}

// opened is a store with one full replica of the incarnation 1.
func opened(t *testing.T, bucket, replica int) *store.Store {
	t.Helper()
	s := store.New()
	isOK(t, s.Open(bucket, replica, 1, true))
	return s
}

// installed is a store with one replica.
func installed(t *testing.T, bucket, replica int, c api.Copy) *store.Store {
	t.Helper()
	s := store.New()
	isOK(t, s.Install(bucket, replica, c))
	return s
}

func isOK(t *testing.T, e api.Errno) {
	t.Helper()
	if e != api.OK {
		t.Fatalf("the error %d", e)
	}
}

func fails(t *testing.T, e, want api.Errno) {
	t.Helper()
	if e != want {
		t.Errorf("the error %d, want %d", e, want)
	}
}

// holds asks for all that a replica holds.
func holds(t *testing.T, s *store.Store, bucket, replica int, want api.Copy) {
	t.Helper()
	c, e := s.Extract(bucket, replica)
	if e != api.OK || !same(c, want) {
		t.Errorf("%d, %d holds %+v, %d, want %+v", bucket, replica, c, e, want)
	}
}

// extracted is all that a replica holds.
func extracted(t *testing.T, s *store.Store, bucket, replica int) api.Copy {
	t.Helper()
	c, e := s.Extract(bucket, replica)
	isOK(t, e)
	return c
}

func hasNone(t *testing.T, s *store.Store, bucket, replica int) {
	t.Helper()
	c, e := s.Extract(bucket, replica)
	if !same(c, api.Copy{}) || e != api.ErrStoreNone || s.State(bucket, replica) != api.StateNone {
		t.Errorf("%d, %d holds %+v, %d", bucket, replica, c, e)
	}
}

func votes(t *testing.T, s *store.Store, replica int, l api.Lock, want api.Vote) {
	t.Helper()
	v, e := s.Vote(replica, l)
	if v != want || e != api.OK {
		t.Errorf("Vote(%d, %+v): %d, %d, want %d", replica, l, v, e, want)
	}
}

// votesNot asks for an error of Vote, which changes nothing.
func votesNot(t *testing.T, s *store.Store, replica int, l api.Lock, want api.Errno) {
	t.Helper()
	before, had := s.Extract(l.Item.Bucket, replica)
	v, e := s.Vote(replica, l)
	if v != api.VoteNone || e != want {
		t.Errorf("Vote(%d, %+v): %d, %d, want the error %d", replica, l, v, e, want)
	}
	if after, has := s.Extract(l.Item.Bucket, replica); has != had || !same(after, before) {
		t.Errorf("Vote(%d, %+v) made %+v of %+v", replica, l, after, before)
	}
}

func decides(t *testing.T, s *store.Store, replica int, l api.Lock, commit bool) {
	t.Helper()
	if e := s.Decide(replica, l, commit); e != api.OK {
		t.Errorf("Decide(%d, %+v, %t): %d", replica, l, commit, e)
	}
}

// decidesNot asks for an error of Decide, which changes nothing.
func decidesNot(t *testing.T, s *store.Store, replica int, l api.Lock, want api.Errno) {
	t.Helper()
	before, had := s.Extract(l.Item.Bucket, replica)
	for _, commit := range []bool{true, false} {
		if e := s.Decide(replica, l, commit); e != want {
			t.Errorf("Decide(%d, %+v, %t): %d, want %d", replica, l, commit, e, want)
		}
		if after, has := s.Extract(l.Item.Bucket, replica); has != had || !same(after, before) {
			t.Errorf("Decide(%d, %+v, %t) made %+v of %+v", replica, l, commit, after, before)
		}
	}
}

// answers asks for what a replica tells a reader.
func answers(t *testing.T, s *store.Store, bucket, replica int, inc, ver uint32, data []api.Entry) {
	t.Helper()
	a, e := s.Read(bucket, replica)
	if e != api.OK || a.Round != 0 || a.Inc != inc || a.Ver != ver || !sameEntries(a.Data, data) {
		t.Errorf("Read(%d, %d): %+v, %d, want %d, %d, %v", bucket, replica, a, e, inc, ver, data)
	}
}

func answersNot(t *testing.T, s *store.Store, bucket, replica int, want api.Errno) {
	t.Helper()
	a, e := s.Read(bucket, replica)
	if e != want || a.Round != 0 || a.Inc != 0 || a.Ver != 0 || len(a.Data) != 0 {
		t.Errorf("Read(%d, %d): %+v, %d, want the error %d", bucket, replica, a, e, want)
	}
}

func TestNumbersOfTheChapter(t *testing.T) {
	if api.OK != 0 || api.ErrArg != 1 || api.ErrStoreNone != 151 || api.ErrStoreState != 152 || api.ErrStoreInc != 153 || api.ErrStoreFull != 154 || api.ErrStoreForm != 155 {
		t.Error("the errors' numbers")
	}
	if api.MaxBucket != mostEntries || api.MaxHeld != mostHeld || api.MaxTxs != mostVotes || api.Buckets-1 != lastBucket || api.MaxCount-1 != lastVer {
		t.Error("the limits")
	}
}

func TestRowsOfTheChapter(t *testing.T) {
	s := store.New()
	isOK(t, s.Open(0, 0, 1, true))
	seven := with(writes(7, 0, 0, "v"), 1, 1, 1, 0)
	votes(t, s, 0, seven, api.VotePrepared)
	votes(t, s, 0, with(reads(8, 0, 0), 1, 1, 1, 0), api.VoteAbort)
	decides(t, s, 0, seven, true)
	answers(t, s, 0, 0, 1, 1, entriesOf(0, 1, "v"))
	votes(t, s, 0, writes(9, 0, 0, "w"), api.VoteAbort)
	votesNot(t, s, 0, with(writes(10, 0, 1, "w"), 2, 1, 1, 1), api.ErrStoreInc)
	// Having voted helps nothing.
	votesNot(t, s, 0, with(writes(9, 0, 0, "w"), 2, 1, 1, 1), api.ErrStoreInc)
}

// On nil each call tells ErrArg, ahead of all other errors, or nothing.
func TestNilStore(t *testing.T) {
	var s *store.Store
	full := api.Copy{State: api.StateFull, Inc: 1}
	for _, bucket := range append([]int{0, 24, lastBucket}, wrongNumbers...) {
		for _, replica := range append([]int{0, 3}, wrongReplicas...) {
			fails(t, s.Open(bucket, replica, 1, true), api.ErrArg)
			fails(t, s.Open(bucket, replica, 0, false), api.ErrArg)
			fails(t, s.Drop(bucket, replica), api.ErrArg)
			if got := s.State(bucket, replica); got != api.StateNone {
				t.Errorf("State: %d", got)
			}
			answersNot(t, s, bucket, replica, api.ErrArg)
			for _, l := range []api.Lock{{}, reads(1, bucket, 0), writes(1, bucket, 0, strings.Repeat("v", 65))} {
				if v, e := s.Vote(replica, l); v != api.VoteNone || e != api.ErrArg {
					t.Errorf("Vote: %d, %d", v, e)
				}
				fails(t, s.Decide(replica, l, true), api.ErrArg)
			}
			for _, of := range []int{0, 1, 3, 4, -1} {
				if c, e := s.Fence(bucket, replica, of, 1); !same(c, api.Copy{}) || e != api.ErrArg {
					t.Errorf("Fence: %+v, %d", c, e)
				}
			}
			fails(t, s.Recover(bucket, replica, [4]api.Copy{}), api.ErrArg)
			fails(t, s.Recover(bucket, replica, [4]api.Copy{full, full, full, full}), api.ErrArg)
			if c, e := s.Extract(bucket, replica); !same(c, api.Copy{}) || e != api.ErrArg {
				t.Errorf("Extract: %+v, %d", c, e)
			}
			fails(t, s.Install(bucket, replica, full), api.ErrArg)
			fails(t, s.Install(bucket, replica, api.Copy{}), api.ErrArg)
		}
	}
}

// A store that nobody made is one without replicas, too.
func TestZeroStore(t *testing.T) {
	for _, s := range []*store.Store{{}, store.New()} {
		hasNone(t, s, 0, 0)
		answersNot(t, s, 0, 0, api.ErrStoreNone)
		votesNot(t, s, 0, reads(1, 0, 0), api.ErrStoreNone)
		decidesNot(t, s, 0, reads(1, 0, 0), api.ErrStoreNone)
		fails(t, s.Drop(0, 0), api.ErrStoreNone)
		isOK(t, s.Open(0, 0, 1, true))
		isOK(t, s.Install(0, 1, api.Copy{State: api.StateRecovering, Inc: 2}))
		answers(t, s, 0, 0, 1, 0, nil)
		holds(t, s, 0, 1, api.Copy{State: api.StateRecovering, Inc: 2})
	}
}

// What a store does not have, is no bucket or no replica, is told as missing.
func TestWhatIsNotThere(t *testing.T) {
	s := opened(t, 5, 2)
	full := api.Copy{State: api.StateFull, Inc: 1}
	missing := [][2]int{{5, 0}, {5, 1}, {5, 3}, {4, 2}, {6, 2}, {2, 5}, {21, 2}, {37, 2}, {0, 0}, {lastBucket, 3}, {5, 2 - 4}, {5, 2 + 4}, {5 - 64, 2}, {5 + 64, 2}}
	for _, n := range wrongNumbers {
		missing = append(missing, [2]int{n, 2}, [2]int{n, n})
	}
	for _, n := range wrongReplicas {
		missing = append(missing, [2]int{5, n}, [2]int{lastBucket, n})
	}
	for _, m := range missing {
		hasNone(t, s, m[0], m[1])
		answersNot(t, s, m[0], m[1], api.ErrStoreNone)
		fails(t, s.Drop(m[0], m[1]), api.ErrStoreNone)
		fails(t, s.Recover(m[0], m[1], [4]api.Copy{full, full, full, full}), api.ErrStoreNone)
		for of := range 4 {
			if c, e := s.Fence(m[0], m[1], of, 1); of != m[1] && (!same(c, api.Copy{}) || e != api.ErrStoreNone) {
				t.Errorf("Fence(%d, %d, %d): %+v, %d", m[0], m[1], of, c, e)
			}
		}
		if m[0] >= 0 && m[0] <= lastBucket {
			votesNot(t, s, m[1], reads(1, m[0], 0), api.ErrStoreNone)
			decidesNot(t, s, m[1], writes(1, m[0], 0, "v"), api.ErrStoreNone)
		}
	}
	holds(t, s, 5, 2, full)
}
