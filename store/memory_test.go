package store_test

import (
	"runtime"
	"slices"
	"strings"
	"testing"
	"unsafe"

	"tontine/api"
	"tontine/store"
)

// lend is a text whose bytes the caller may change.
func lend(s string) (string, []byte) {
	b := []byte(s)
	return unsafe.String(&b[0], len(b)), b
}

// roomy is a list with room behind its length, in which something stands.
func roomy[T any](l []T, behind T) []T {
	all := make([]T, len(l), len(l)+3)
	copy(all, l)
	for i := len(l); i < cap(all); i++ {
		all[:cap(all)][i] = behind
	}
	return all
}

var junk = api.Entry{Key: "junk", Value: "junk"}

// roomyLock is a lock with room behind its entries.
func roomyLock(l api.Lock) api.Lock {
	l.Item.Data = roomy(l.Item.Data, junk)
	return l
}

// roomyCopy is a copy with room behind all its lists.
func roomyCopy(c api.Copy) api.Copy {
	c.Data = roomy(c.Data, junk)
	c.Locks = roomy(c.Locks, api.Lock{Tx: 99})
	for i, l := range c.Locks {
		c.Locks[i] = roomyLock(l)
	}
	c.Votes = roomy(c.Votes, api.Voted{Tx: 99})
	return c
}

// spoil writes to all that a copy reaches, also behind the lengths.
func spoil(c api.Copy) {
	for _, l := range c.Locks[:cap(c.Locks)] {
		spoilEntries(l.Item.Data)
	}
	for i := range c.Locks[:cap(c.Locks)] {
		c.Locks[:cap(c.Locks)][i] = api.Lock{Tx: 12345}
	}
	for i := range c.Votes[:cap(c.Votes)] {
		c.Votes[:cap(c.Votes)][i] = api.Voted{Tx: 12345, Vote: 9}
	}
	spoilEntries(c.Data)
}

func spoilEntries(l []api.Entry) {
	for i := range l[:cap(l)] {
		l[:cap(l)][i] = api.Entry{Key: "spoilt", Value: "spoilt"}
	}
}

// rich is a copy that has all that one may have.
func rich() api.Copy {
	return api.Copy{State: api.StateFull, Inc: 1, Ver: 3, Data: entriesOf(24, 3, "rich"), Locks: []api.Lock{writes(1, 24, 3, "one"), writes(2, 24, 4, "two")}, Fences: [4]uint32{0, 1, 1, 1}, Votes: []api.Voted{{Tx: 1, Vote: api.VotePrepared}, {Tx: 2, Vote: api.VotePrepared}}}
}

// behindIs asks whether what stands behind the lengths is still there.
func behindIs(t *testing.T, c api.Copy) {
	t.Helper()
	for _, l := range append([]api.Lock{{Item: api.Item{Data: c.Data}}}, c.Locks...) {
		d := l.Item.Data
		for _, e := range d[len(d):cap(d)] {
			if e != junk {
				t.Errorf("behind the entries stands %v", e)
			}
		}
	}
	for _, l := range c.Locks[len(c.Locks):cap(c.Locks)] {
		if l.Tx != 99 {
			t.Errorf("behind the locks stands %v", l)
		}
	}
	for _, v := range c.Votes[len(c.Votes):cap(c.Votes)] {
		if v.Tx != 99 {
			t.Errorf("behind the votes stands %v", v)
		}
	}
}

func TestInstallKeepsNoMemory(t *testing.T) {
	c := roomyCopy(rich())
	s := installed(t, 24, 0, c)
	if !same(c, rich()) {
		t.Errorf("Install made %+v", c)
	}
	behindIs(t, c)
	votes(t, s, 0, reads(9, 24, 3), api.VoteAbort)
	decides(t, s, 0, reads(2, 24, 3), true)
	if !same(c, rich()) {
		t.Errorf("later calls made %+v", c)
	}
	behindIs(t, c)
	want := extracted(t, s, 24, 0)
	spoil(c)
	holds(t, s, 24, 0, want)
	answers(t, s, 24, 0, 1, 3, entriesOf(24, 3, "rich"))
}

func TestRecoverKeepsNoMemory(t *testing.T) {
	l := [4]api.Copy{roomyCopy(rich()), roomyCopy(rich()), roomyCopy(rich()), roomyCopy(rich())}
	for of := range l {
		for i := range l[of].Locks {
			l[of].Locks[i].Tx += uint64(10 * of)
		}
	}
	was := l
	s := store.New()
	isOK(t, s.Open(24, 3, 1, false))
	isOK(t, s.Recover(24, 3, l))
	want := extracted(t, s, 24, 3)
	if len(want.Locks) != 6 || len(want.Data) != 3 {
		t.Errorf("%+v", want)
	}
	decides(t, s, 3, reads(1, 24, 3), false)
	isOK(t, s.Drop(24, 3))
	isOK(t, s.Open(24, 3, 1, false))
	isOK(t, s.Recover(24, 3, l))
	for of := range l {
		if !same(l[of], was[of]) {
			t.Errorf("Recover made %+v", l[of])
		}
		behindIs(t, l[of])
	}
	for _, c := range l {
		spoil(c)
	}
	holds(t, s, 24, 3, want)
}

func TestVoteKeepsNoMemory(t *testing.T) {
	s := opened(t, 24, 0)
	l := roomyLock(writes(1, 24, 0, "v"))
	votes(t, s, 0, l, api.VotePrepared)
	behindIs(t, api.Copy{Locks: []api.Lock{l}})
	spoilEntries(l.Item.Data)
	if c := extracted(t, s, 24, 0); len(c.Locks) != 1 || !sameEntries(c.Locks[0].Item.Data, entriesOf(24, 1, "v")) {
		t.Errorf("%+v", c)
	}
}

func TestDecideKeepsNoMemory(t *testing.T) {
	s := opened(t, 24, 0)
	l := roomyLock(writes(1, 24, 0, "v"))
	decides(t, s, 0, l, true)
	behindIs(t, api.Copy{Locks: []api.Lock{l}})
	spoilEntries(l.Item.Data)
	answers(t, s, 24, 0, 1, 1, entriesOf(24, 1, "v"))
}

// Texts are the store's from the call on, too: those of a caller may be pieces of what it uses again.
func TestTextsAreKept(t *testing.T) {
	key, keyBytes := lend("a-key-to-be-used-again")
	value, valueBytes := lend("a-value-to-be-used-again")
	data := []api.Entry{{Key: key[:5], Value: value[:7]}}
	want := []api.Entry{{Key: strings.Clone(key[:5]), Value: strings.Clone(value[:7])}}
	l := reads(1, 24, 0)
	l.Item.Write, l.Item.Data = true, data
	voted, decided, recovered := opened(t, 24, 0), opened(t, 24, 0), store.New()
	votes(t, voted, 0, l, api.VotePrepared)
	decides(t, decided, 0, l, true)
	c := full(1, 0)
	c.Data, c.Locks = data, []api.Lock{l}
	put := installed(t, 24, 0, c)
	isOK(t, recovered.Open(24, 0, 1, false))
	isOK(t, recovered.Recover(24, 0, [4]api.Copy{{}, c, c, c}))
	clear(keyBytes)
	clear(valueBytes)
	answers(t, decided, 24, 0, 1, 1, want)
	answers(t, put, 24, 0, 1, 0, want)
	answers(t, recovered, 24, 0, 1, 0, want)
	for _, s := range []*store.Store{voted, put, recovered} {
		if held := extracted(t, s, 24, 0).Locks; len(held) != 1 || !sameEntries(held[0].Item.Data, want) {
			t.Errorf("%+v", held)
		}
	}
}

// What is told is the caller's: who writes to it changes no replica and no other answer.
func TestAnswersAreNewMemory(t *testing.T) {
	s := installed(t, 24, 0, rich())
	for range 3 {
		one, two := extracted(t, s, 24, 0), extracted(t, s, 24, 0)
		spoil(one)
		if !same(two, rich()) {
			t.Errorf("%+v", two)
		}
		holds(t, s, 24, 0, rich())
		one, e := s.Fence(24, 0, 1, 1)
		isOK(t, e)
		spoil(one)
		holds(t, s, 24, 0, rich())
		a, e := s.Read(24, 0)
		isOK(t, e)
		b, e := s.Read(24, 0)
		isOK(t, e)
		spoilEntries(a.Data)
		if !sameEntries(b.Data, rich().Data) {
			t.Errorf("%+v", b)
		}
		holds(t, s, 24, 0, rich())
	}
}

// The lists of one answer share nothing, even where they came to the store as one: who appends to one changes no other.
func TestListsOfAnAnswerAreApart(t *testing.T) {
	all := entriesOf(24, 8, "v")
	c := full(1, 0)
	c.Data = all[:2]
	for tx := range uint64(3) {
		l := writes(tx+1, 24, 0, "")
		l.Item.Data = all[2*tx : 2*tx+2]
		c.Locks = append(c.Locks, l)
	}
	s := installed(t, 24, 0, c)
	got := extracted(t, s, 24, 0)
	lists := [][]api.Entry{got.Data, got.Locks[0].Item.Data, got.Locks[1].Item.Data, got.Locks[2].Item.Data}
	for i := range lists {
		was := [][]api.Entry{}
		for _, l := range lists {
			was = append(was, slices.Clone(l))
		}
		spoilEntries(lists[i])
		for j := range lists {
			if j != i && !slices.Equal(lists[j], was[j]) {
				t.Errorf("writing to the list %d made %v of the list %d", i, lists[j], j)
			}
		}
	}
	holds(t, s, 24, 0, c)
}

// What was told stays as it is when the store goes on.
func TestAnswersStay(t *testing.T) {
	s := installed(t, 24, 0, rich())
	c := extracted(t, s, 24, 0)
	a, e := s.Read(24, 0)
	isOK(t, e)
	fenced, e := s.Fence(24, 0, 1, 1)
	isOK(t, e)
	decides(t, s, 0, writes(1, 24, 3, "one"), true)
	decides(t, s, 0, writes(2, 24, 4, "two"), true)
	votes(t, s, 0, reads(7, 24, 5), api.VotePrepared)
	_, e = s.Fence(24, 0, 1, 9)
	isOK(t, e)
	isOK(t, s.Drop(24, 0))
	if !same(c, rich()) || !same(fenced, rich()) || !sameEntries(a.Data, rich().Data) {
		t.Errorf("%+v, %+v, %+v", c, fenced, a)
	}
}

// heap is how much memory is in use.
func heap() uint64 {
	runtime.GC()
	var m runtime.MemStats
	runtime.ReadMemStats(&m)
	return m.HeapAlloc
}

// What a store keeps does not grow with what it has seen, nor with texts of which it was given pieces.
func TestStoresDoNotGrow(t *testing.T) {
	before := heap()
	s := opened(t, 24, 0)
	for n := range 60000 {
		long := strings.Repeat("v", 5000)
		l := writes(uint64(n+1), 24, uint32(n), long[:5])
		s.Vote(0, l)
		decides(t, s, 0, l, true)
		if n%100 == 0 {
			isOK(t, s.Open(7, 2, 1, true))
			s.Vote(2, writes(uint64(n+1), 7, 0, long[:9]))
			isOK(t, s.Drop(7, 2))
		}
	}
	var stores []*store.Store
	for range 1000 {
		long := "a" + strings.Repeat("v", 50000)
		c := full(1, 0)
		c.Data = []api.Entry{{Key: long[:3], Value: long[5:9]}}
		c.Locks = make([]api.Lock, 0, 1000)
		c.Votes = make([]api.Voted, 0, 1000)
		stores = append(stores, installed(t, 24, 0, c))
	}
	if after := heap(); after > before+10<<20 {
		t.Errorf("%d bytes are in use, and before that %d", after, before)
	}
	runtime.KeepAlive(s)
	runtime.KeepAlive(stores)
}

// The same calls have the same answers, at each store (P2), and stores at which calls come at once do not disturb each other.
func TestAnswersHangOnTheCallsAlone(t *testing.T) {
	run := func() []api.Copy {
		s := store.New()
		var told []api.Copy
		for n := range 300 {
			bucket, replica := n%3, n/3%4
			s.Open(bucket, replica, 1, n%5 > 0)
			s.Vote(replica, writes(uint64(n%50), bucket, uint32(n/20), "v"))
			s.Decide(replica, writes(uint64(n%40), bucket, uint32(n/20), "w"), n%2 > 0)
			c, _ := s.Fence(bucket, replica, n%4, uint32(n))
			told = append(told, c)
			s.Recover(bucket, replica, [4]api.Copy{c, c, c, c})
			c, _ = s.Extract(bucket, replica)
			told = append(told, c)
		}
		return told
	}
	want := run()
	done := make(chan []api.Copy)
	for range 8 {
		go func() { done <- run() }()
	}
	for range 8 {
		if got := <-done; !slices.EqualFunc(got, want, same) {
			t.Error("two stores with the same calls answer differently")
		}
	}
}

// Copies of many locks and votes end in time.
func TestLargeCopies(t *testing.T) {
	c := full(1, 0)
	for n := range uint64(200000) {
		c.Locks = append(c.Locks, reads(n+1, 24, 0))
		c.Votes = append(c.Votes, api.Voted{Tx: n + 1, Vote: api.VoteAbort})
	}
	s := store.New()
	isOK(t, s.Open(24, 0, 1, false))
	isOK(t, s.Recover(24, 0, [4]api.Copy{{}, c, c, c}))
	if got := extracted(t, s, 24, 0); len(got.Locks) != 200000 {
		t.Errorf("%d locks", len(got.Locks))
	}
}
