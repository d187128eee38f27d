package store_test

import (
	"slices"
	"testing"

	"tontine/api"
	"tontine/store"
)

// past is a replica as the model has it: how it began, and all that happened to it since; what it holds is worked out from that anew each time.
type past struct {
	replica int
	// bare tells that it was opened, and never recovered.
	bare   bool
	start  api.Copy
	events []event
}

// event is a vote that was given anew, a decision, or a fence.
type event struct {
	lock    api.Lock
	vote    api.Vote
	decided bool
	commit  bool
	of      int
	fence   uint32
}

// given is the first vote of a list on a transaction.
func given(l []api.Voted, tx uint64) api.Vote {
	if at := slices.IndexFunc(l, func(v api.Voted) bool { return v.Tx == tx }); at >= 0 {
		return l[at].Vote
	}
	return api.VoteNone
}

func (p *past) votes() []api.Voted {
	l := slices.Clone(p.start.Votes)
	for _, e := range p.events {
		if e.vote != api.VoteNone {
			l = append(l, api.Voted{Tx: e.lock.Tx, Vote: e.vote})
		}
		if e.decided && given(l, e.lock.Tx) == api.VoteNone && len(l) < mostVotes {
			l = append(l, api.Voted{Tx: e.lock.Tx, Vote: api.VoteAbort})
		}
	}
	return l
}

// locks are those that were there or were taken, for as long as no decision came behind them.
func (p *past) locks() []api.Lock {
	var l []api.Lock
	stays := func(tx uint64, from int) bool {
		return !slices.ContainsFunc(p.events[from:], func(e event) bool { return e.decided && e.lock.Tx == tx })
	}
	for _, lock := range p.start.Locks {
		if stays(lock.Tx, 0) {
			l = append(l, lock)
		}
	}
	for n, e := range p.events {
		if e.vote == api.VotePrepared && stays(e.lock.Tx, n) {
			l = append(l, e.lock)
		}
	}
	return l
}

// ver is the greatest of all versions that were there or were written.
func (p *past) ver() uint32 {
	v := p.start.Ver
	for _, e := range p.events {
		if e.decided && e.commit && e.lock.Item.Write {
			v = max(v, e.lock.Item.Ver+1)
		}
	}
	return v
}

// data is what came with that version first.
func (p *past) data() []api.Entry {
	v := p.ver()
	if v == p.start.Ver {
		return p.start.Data
	}
	for _, e := range p.events {
		if e.decided && e.commit && e.lock.Item.Write && e.lock.Item.Ver == v-1 {
			return e.lock.Item.Data
		}
	}
	return nil
}

func (p *past) fence(of int) uint32 {
	f := p.start.Fences[of]
	for _, e := range p.events {
		if e.fence > 0 && e.of == of {
			f = e.fence
		}
	}
	return f
}

func (p *past) copied() api.Copy {
	c := api.Copy{State: p.start.State, Inc: p.start.Inc, Ver: p.ver(), Data: p.data(), Locks: p.locks(), Votes: p.votes()}
	for of := range c.Fences {
		c.Fences[of] = p.fence(of)
	}
	return tidy(c)
}

// prepares tells whether a new vote prepares.
func (p *past) prepares(l api.Lock) bool {
	for of := range 4 {
		if inc := l.Item.Incs[of]; of != p.replica && inc > 0 && p.fence(of) > inc {
			return false
		}
	}
	held := p.locks()
	written := l.Item.Write
	for _, other := range held {
		written = written || other.Item.Write
	}
	return l.Item.Ver >= p.ver() && len(held) <= mostHeld-1 && (len(held) == 0 || !written)
}

// mayBe tells whether a lock is valid.
func mayBe(l api.Lock) bool {
	i := l.Item
	read := 0
	for _, inc := range i.Incs {
		read += int(min(inc, 1))
	}
	if l.Tx == 0 || i.Bucket < 0 || i.Bucket > lastBucket || i.Ver > lastVer || read < 3 {
		return false
	}
	if !i.Write {
		return len(i.Data) == 0
	}
	var keys []string
	for _, e := range i.Data {
		if e.Key == "" || len(e.Key) > 32 || len(e.Value) > 64 || int(e.Key[0])/4 != i.Bucket {
			return false
		}
		keys = append(keys, e.Key)
	}
	return len(keys) <= mostEntries && slices.IsSorted(keys) && len(slices.Compact(keys)) == len(i.Data)
}

// fault is an error and whether it applies.
type fault struct {
	is bool
	e  api.Errno
}

// first is the first error that applies.
func first(l ...fault) api.Errno {
	for _, f := range l {
		if f.is {
			return f.e
		}
	}
	return api.OK
}

// shelf is a store as the model has it, by bucket and replica; nil is what it does not have.
type shelf [64][4]*past

func isThere(bucket, replica int) bool {
	return bucket >= 0 && bucket < 64 && replica >= 0 && replica < 4
}

func (m *shelf) at(bucket, replica int) *past {
	if !isThere(bucket, replica) {
		return nil
	}
	return m[bucket][replica]
}

// stateOf is a replica's; none has one that no replica has.
func stateOf(p *past) api.State {
	if p == nil {
		return api.StateNone
	}
	return p.start.State
}

func (m *shelf) open(bucket, replica int, inc uint32, full bool) api.Errno {
	p := m.at(bucket, replica)
	e := first(fault{!isThere(bucket, replica) || inc == 0, api.ErrArg}, fault{p != nil, api.ErrStoreState})
	if e == api.OK {
		state := api.StateRecovering
		if full {
			state = api.StateFull
		}
		m[bucket][replica] = &past{replica: replica, bare: true, start: api.Copy{State: state, Inc: inc}}
	}
	return e
}

func (m *shelf) drop(bucket, replica int) api.Errno {
	if m.at(bucket, replica) == nil {
		return api.ErrStoreNone
	}
	m[bucket][replica] = nil
	return api.OK
}

func (m *shelf) install(bucket, replica int, c api.Copy) api.Errno {
	p := m.at(bucket, replica)
	e := first(fault{!isThere(bucket, replica), api.ErrArg}, fault{p != nil, api.ErrStoreState},
		fault{c.State != api.StateFull && c.State != api.StateRecovering, api.ErrStoreForm}, fault{c.Inc == 0, api.ErrStoreForm})
	if e == api.OK {
		m[bucket][replica] = &past{replica: replica, start: tidy(c)}
	}
	return e
}

func (m *shelf) vote(replica int, l api.Lock) (api.Vote, api.Errno) {
	p := m.at(l.Item.Bucket, replica)
	e := first(fault{!mayBe(l), api.ErrStoreForm}, fault{p == nil, api.ErrStoreNone}, fault{stateOf(p) != api.StateFull, api.ErrStoreState})
	if e != api.OK {
		return api.VoteNone, e
	}
	before := p.votes()
	v := given(before, l.Tx)
	e = first(fault{l.Item.Incs[replica] != p.start.Inc, api.ErrStoreInc}, fault{v == api.VoteNone && len(before) >= mostVotes, api.ErrStoreFull})
	if e != api.OK {
		return api.VoteNone, e
	}
	if v == api.VoteNone {
		v = api.VoteAbort
		if p.prepares(l) {
			v = api.VotePrepared
		}
		p.events = append(p.events, event{lock: l, vote: v})
	}
	return v, api.OK
}

func (m *shelf) decide(replica int, l api.Lock, commit bool) api.Errno {
	p := m.at(l.Item.Bucket, replica)
	e := first(fault{!mayBe(l), api.ErrStoreForm}, fault{p == nil, api.ErrStoreNone}, fault{stateOf(p) != api.StateFull, api.ErrStoreState})
	if e == api.OK {
		p.events = append(p.events, event{lock: l, decided: true, commit: commit})
	}
	return e
}

func (m *shelf) fence(bucket, replica, of int, inc uint32) api.Errno {
	p := m.at(bucket, replica)
	e := first(fault{of < 0 || of > 3 || of == replica || inc == 0, api.ErrArg}, fault{p == nil, api.ErrStoreNone}, fault{stateOf(p) != api.StateFull, api.ErrStoreState})
	if e != api.OK {
		return e
	}
	if inc < p.fence(of) {
		return api.ErrStoreInc
	}
	p.events = append(p.events, event{of: of, fence: inc})
	return api.OK
}

func (m *shelf) recover(bucket, replica int, l [4]api.Copy) api.Errno {
	p := m.at(bucket, replica)
	e := first(fault{p == nil, api.ErrStoreNone}, fault{stateOf(p) != api.StateRecovering, api.ErrStoreState})
	if e != api.OK {
		return e
	}
	three := othersOf(replica)
	for _, of := range three {
		if l[of].State != api.StateFull || l[of].Inc == 0 {
			return api.ErrStoreForm
		}
	}
	c := api.Copy{State: api.StateFull, Inc: p.start.Inc, Fences: p.start.Fences}
	for _, of := range slices.Backward(three) {
		if c.Ver <= l[of].Ver {
			c.Ver, c.Data = l[of].Ver, l[of].Data
		}
	}
	for _, of := range three {
		c.Locks = append(c.Locks, l[of].Locks...)
		heard := []uint32{p.start.Fences[of], l[of].Inc}
		for _, from := range three {
			heard = append(heard, l[from].Fences[of])
		}
		// What it says of itself stands at its own place in the row.
		heard = slices.Delete(heard, 2+slices.Index(three, of), 3+slices.Index(three, of))
		c.Fences[of] = slices.Max(heard)
	}
	for n := len(c.Locks) - 1; n >= 0; n-- {
		if slices.ContainsFunc(c.Locks[:n], func(other api.Lock) bool { return other.Tx == c.Locks[n].Tx }) {
			c.Locks = slices.Delete(c.Locks, n, n+1)
		}
	}
	m[bucket][replica] = &past{replica: replica, start: tidy(c)}
	return api.OK
}

// spot is which replica.
type spot struct{ bucket, replica int }

// twins are a store and its model, which get the same calls and must answer the same.
type twins struct {
	t *testing.T
	s *store.Store
	m *shelf
	// count is how often each call had each outcome, and voted how often each vote was told.
	count map[string]map[api.Errno]int
	voted map[api.Vote]int
	// promised is what was voted by the replicas that were opened, and lows what versions and fences have come to.
	promised map[spot]map[uint64]api.Vote
	lows     map[spot]api.Copy
}

func twinsOf(t *testing.T) *twins {
	return &twins{t: t, s: store.New(), m: &shelf{}, count: map[string]map[api.Errno]int{}, voted: map[api.Vote]int{}, promised: map[spot]map[uint64]api.Vote{}, lows: map[spot]api.Copy{}}
}

// tells holds a call's error against the model's, and looks at the replica that the call concerned.
func (w *twins) tells(call string, bucket, replica int, e, want api.Errno) bool {
	w.t.Helper()
	if e != want {
		w.t.Fatalf("%s of %d, %d: %d, want %d", call, bucket, replica, e, want)
	}
	if w.count[call] == nil {
		w.count[call] = map[api.Errno]int{}
	}
	w.count[call][e]++
	w.looks(bucket, replica)
	return e == api.OK
}

// looks asks for all that can be asked of a replica without a change.
func (w *twins) looks(bucket, replica int) {
	w.t.Helper()
	p := w.m.at(bucket, replica)
	c, e := w.s.Extract(bucket, replica)
	a, eRead := w.s.Read(bucket, replica)
	if state := w.s.State(bucket, replica); state != stateOf(p) {
		w.t.Fatalf("%d, %d: the state %d, want %d", bucket, replica, state, stateOf(p))
	}
	if p == nil {
		if e != api.ErrStoreNone || eRead != api.ErrStoreNone || !same(c, api.Copy{}) {
			w.t.Fatalf("%d, %d: %d, %d", bucket, replica, e, eRead)
		}
		return
	}
	want := p.copied()
	if e != api.OK || !same(c, want) {
		w.t.Fatalf("%d, %d: %+v, %d, want %+v behind %+v", bucket, replica, c, e, want, p.events)
	}
	if want.State != api.StateFull {
		if eRead != api.ErrStoreState || a.Inc != 0 || a.Ver != 0 || len(a.Data) != 0 {
			w.t.Fatalf("%d, %d: Read %+v, %d", bucket, replica, a, eRead)
		}
	} else if eRead != api.OK || a.Round != 0 || a.Inc != want.Inc || a.Ver != want.Ver || !sameEntries(a.Data, want.Data) {
		w.t.Fatalf("%d, %d: Read %+v, %d, want %+v", bucket, replica, a, eRead, want)
	}
	w.keepsPromises(spot{bucket, replica}, p, c)
}

// keepsPromises asks for P15.2 and P15.3.
func (w *twins) keepsPromises(at spot, p *past, c api.Copy) {
	w.t.Helper()
	low, known := w.lows[at]
	for of := range 4 {
		if known && c.Fences[of] < low.Fences[of] {
			w.t.Fatalf("%v: the fence for %d went from %d to %d", at, of, low.Fences[of], c.Fences[of])
		}
	}
	if known && c.Ver < low.Ver {
		w.t.Fatalf("%v: the version went from %d to %d", at, low.Ver, c.Ver)
	}
	w.lows[at] = c
	if !p.bare {
		return
	}
	written := slices.ContainsFunc(c.Locks, func(l api.Lock) bool { return l.Item.Write })
	if written && len(c.Locks) > 1 || len(c.Locks) > mostHeld || len(c.Votes) > mostVotes {
		w.t.Fatalf("%v: the locks %+v and %d votes", at, c.Locks, len(c.Votes))
	}
}

func (w *twins) open(bucket, replica int, inc uint32, full bool) {
	w.t.Helper()
	w.tells("Open", bucket, replica, w.s.Open(bucket, replica, inc, full), w.m.open(bucket, replica, inc, full))
}

func (w *twins) drop(bucket, replica int) {
	w.t.Helper()
	delete(w.promised, spot{bucket, replica})
	delete(w.lows, spot{bucket, replica})
	w.tells("Drop", bucket, replica, w.s.Drop(bucket, replica), w.m.drop(bucket, replica))
}

func (w *twins) install(bucket, replica int, c api.Copy) {
	w.t.Helper()
	w.tells("Install", bucket, replica, w.s.Install(bucket, replica, c), w.m.install(bucket, replica, c))
}

func (w *twins) vote(replica int, l api.Lock) {
	w.t.Helper()
	v, e := w.s.Vote(replica, l)
	want, wantE := w.m.vote(replica, l)
	if v != want {
		w.t.Fatalf("Vote(%d, %+v): %d, want %d", replica, l, v, want)
	}
	at := spot{l.Item.Bucket, replica}
	if !w.tells("Vote", at.bucket, replica, e, wantE) {
		return
	}
	w.voted[v]++
	if !w.m.at(at.bucket, replica).bare {
		return
	}
	if w.promised[at] == nil {
		w.promised[at] = map[uint64]api.Vote{}
	}
	if was, is := w.promised[at][l.Tx]; is && was != v {
		w.t.Fatalf("%v voted %d on %d, and then %d", at, was, l.Tx, v)
	}
	w.promised[at][l.Tx] = v
}

func (w *twins) decide(replica int, l api.Lock, commit bool) {
	w.t.Helper()
	w.tells("Decide", l.Item.Bucket, replica, w.s.Decide(replica, l, commit), w.m.decide(replica, l, commit))
}

func (w *twins) fence(bucket, replica, of int, inc uint32) {
	w.t.Helper()
	c, e := w.s.Fence(bucket, replica, of, inc)
	if w.tells("Fence", bucket, replica, e, w.m.fence(bucket, replica, of, inc)) {
		if want := w.m.at(bucket, replica).copied(); !same(c, want) {
			w.t.Fatalf("Fence(%d, %d, %d, %d): %+v, want %+v", bucket, replica, of, inc, c, want)
		}
	} else if !same(c, api.Copy{}) {
		w.t.Fatalf("Fence(%d, %d, %d, %d): %+v beside an error", bucket, replica, of, inc, c)
	}
}

func (w *twins) recover(bucket, replica int, l [4]api.Copy) {
	w.t.Helper()
	if p := w.m.at(bucket, replica); p != nil && !p.bare {
		// A copy that was installed as recovering may tell of a greater version than the three do.
		low := w.lows[spot{bucket, replica}]
		low.Ver = 0
		w.lows[spot{bucket, replica}] = low
	}
	w.tells("Recover", bucket, replica, w.s.Recover(bucket, replica, l), w.m.recover(bucket, replica, l))
}

// moves takes a replica to another store and goes on there (P15.4): what the first one held beside it is taken along, too.
func (w *twins) moves() {
	w.t.Helper()
	next := store.New()
	for bucket := range 64 {
		for replica := range 4 {
			c, e := w.s.Extract(bucket, replica)
			if e == api.OK {
				isOK(w.t, next.Install(bucket, replica, c))
			}
		}
	}
	w.s = next
}

// looksAtAll looks at each replica.
func (w *twins) looksAtAll() {
	w.t.Helper()
	for bucket := range 64 {
		for replica := range 4 {
			w.looks(bucket, replica)
		}
	}
}
