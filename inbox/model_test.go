package inbox_test

import (
	"bytes"
	"math"
	"strconv"
	"testing"

	"tontine/api"
	"tontine/inbox"
)

// queue is an inbox and its model: all packets that were ever put, and how many of them were taken.
type queue struct {
	t     *testing.T
	b     *inbox.Inbox
	room  int
	all   []api.Packet
	taken int
}

func queueOf(t *testing.T, room int) *queue {
	t.Helper()
	return &queue{t: t, b: made(t, room), room: room}
}

func (q *queue) len() {
	q.t.Helper()
	if got, want := q.b.Len(), len(q.all)-q.taken; got != want {
		q.t.Fatalf("Len: %d, want %d", got, want)
	}
}

func (q *queue) put(p api.Packet) {
	q.t.Helper()
	// The bytes are handed in with others behind them, which are none of the inbox's business.
	lent := append(bytes.Clone(p.Data), "behind"...)
	e := q.b.Put(api.Packet{ID: p.ID, From: p.From, To: p.To, Data: lent[:len(p.Data)]})
	want := api.OK
	if len(q.all)-q.taken == q.room {
		want = api.ErrInboxFull
	} else {
		q.all = append(q.all, p)
	}
	if e != want {
		q.t.Fatalf("Put: %d, want %d", e, want)
	}
	if !bytes.Equal(lent[:len(p.Data)], p.Data) || string(lent[len(p.Data):]) != "behind" {
		q.t.Fatalf("Put changes its argument")
	}
	scribble(lent)
	q.len()
}

func (q *queue) take() {
	q.t.Helper()
	p, is := q.b.Take()
	var want api.Packet
	wantIs := q.taken < len(q.all)
	if wantIs {
		want = q.all[q.taken]
		q.taken++
	}
	if is != wantIs || !samePacket(p, want) {
		q.t.Fatalf("Take: %s, %t, want %s, %t", packetText(p), is, packetText(want), wantIs)
	}
	scribble(p.Data)
	q.len()
}

// record is a call as the model has it: all that were ever opened are kept, with how they ended.
type record struct {
	call    api.Call
	closed  int
	givenUp int
	made    []int64 // when it was made
}

func (r *record) ended() bool { return r.closed+r.givenUp > 0 }

// model is the chapter's words a second time.
type model struct {
	room       int
	base, most int64
	tries      int
	records    []*record
}

func (m *model) count() int {
	n := 0
	for _, r := range m.records {
		if !r.ended() {
			n++
		}
	}
	return n
}

func (m *model) open(to int, now int64) (uint64, api.Errno) {
	if now < 0 || now > lastTime {
		return 0, api.ErrArg
	}
	if m.count() == m.room {
		return 0, api.ErrInboxFull
	}
	id := uint64(len(m.records) + 1)
	x := api.Call{ID: id, To: to, Since: now, Tries: 1, Due: now + delay(m.base, m.most, 0)}
	m.records = append(m.records, &record{call: x, made: []int64{now}})
	return id, api.OK
}

func (m *model) close(id uint64) (api.Call, api.Errno) {
	if id == 0 || id > uint64(len(m.records)) {
		return api.Call{}, api.ErrInboxNone
	}
	r := m.records[id-1]
	if r.ended() {
		return api.Call{}, api.ErrInboxGone
	}
	r.closed++
	return r.call, api.OK
}

// first is the call that is due first, by its number where several are, among those that are not done.
func (m *model) first(now int64, done map[uint64]bool) *record {
	var best *record
	for _, r := range m.records {
		if r.ended() || done[r.call.ID] || r.call.Due > now {
			continue
		}
		if best == nil || r.call.Due < best.call.Due {
			best = r
		}
	}
	return best
}

func (m *model) due(now int64) (again, over []api.Call) {
	if now < 0 || now > lastTime {
		return nil, nil
	}
	done := map[uint64]bool{}
	for {
		r := m.first(now, done)
		if r == nil {
			return again, over
		}
		done[r.call.ID] = true
		if r.call.Tries == m.tries {
			r.givenUp++
			over = append(over, r.call)
			continue
		}
		r.call.Tries++
		r.call.Due = now + delay(m.base, m.most, r.call.Tries-1)
		r.made = append(r.made, now)
		again = append(again, r.call)
	}
}

func (m *model) list() []api.Call {
	var calls []api.Call
	for _, r := range m.records {
		if !r.ended() {
			calls = append(calls, r.call)
		}
	}
	return calls
}

// pair is calls and their model, which get the same and must answer the same; it counts by itself what the calls tell.
type pair struct {
	t     *testing.T
	c     *inbox.Calls
	m     *model
	tried map[uint64]int   // how often each call was made
	last  map[uint64]int64 // when it was made last
	ends  map[uint64]int   // how often it ended
}

func pairOf(t *testing.T, room int, base, most int64, tries int) *pair {
	t.Helper()
	return &pair{
		t: t, c: calls(t, room, base, most, tries), m: &model{room: room, base: base, most: most, tries: tries},
		tried: map[uint64]int{}, last: map[uint64]int64{}, ends: map[uint64]int{},
	}
}

func (p *pair) open(to int, now int64) {
	p.t.Helper()
	id, e := p.c.Open(to, now)
	want, wantE := p.m.open(to, now)
	if id != want || e != wantE {
		p.t.Fatalf("Open(%d, %d): %d, %d, want %d, %d", to, now, id, e, want, wantE)
	}
	if e == api.OK {
		p.tried[id], p.last[id] = 1, now
	}
}

func (p *pair) close(id uint64) {
	p.t.Helper()
	x, err := p.c.Close(id)
	want, wantE := p.m.close(id)
	if why := notFault(err, wantE); why != "" {
		p.t.Fatalf("Close(%d): %v, want %d: %s", id, err, wantE, why)
	}
	if x != want {
		p.t.Fatalf("Close(%d): %v, want %v", id, x, want)
	}
	if err == nil {
		p.ends[id]++
	}
}

func (p *pair) due(now int64) {
	p.t.Helper()
	again, over := p.c.Due(now)
	wantAgain, wantOver := p.m.due(now)
	if !sameCalls(again, wantAgain) || !sameCalls(over, wantOver) {
		p.t.Fatalf("Due(%d): %v, %v, want %v, %v", now, again, over, wantAgain, wantOver)
	}
	for _, x := range again {
		if wait := delay(p.m.base, p.m.most, p.tried[x.ID]-1); now-p.last[x.ID] < wait {
			p.t.Fatalf("Due(%d): call %d was made at %d, less than %d ago", now, x.ID, p.last[x.ID], wait)
		}
		p.tried[x.ID]++
		p.last[x.ID] = now
	}
	for _, x := range over {
		p.ends[x.ID]++
		if p.tried[x.ID] != p.m.tries || x.Tries != p.m.tries {
			p.t.Fatalf("Due(%d): call %d is given up behind %d tries", now, x.ID, p.tried[x.ID])
		}
	}
	smear(again)
	smear(over)
}

// looks asks for all that can be asked without a change.
func (p *pair) looks() {
	p.t.Helper()
	want := p.m.list()
	got := p.c.List()
	if !sameCalls(got, want) {
		p.t.Fatalf("List: %v, want %v", got, want)
	}
	smear(got)
	next := int64(math.MaxInt64)
	for _, x := range want {
		next = min(next, x.Due)
	}
	if len(want) == 0 {
		next = 0
	}
	if got, is := p.c.Next(); got != next || is != (len(want) > 0) {
		p.t.Fatalf("Next: %d, %t, want %d, %t", got, is, next, len(want) > 0)
	}
}

// finish lets all calls come to their end, and counts the ends.
func (p *pair) finish() {
	p.t.Helper()
	for {
		next, is := p.c.Next()
		if !is {
			break
		}
		if next <= lastTime {
			p.due(next)
			continue
		}
		// It can't be due any more.
		p.close(p.c.List()[0].ID)
	}
	p.looks()
	for i, r := range p.m.records {
		id := uint64(i + 1)
		if p.ends[id] != 1 || r.closed+r.givenUp != 1 || p.tried[id] != len(r.made) {
			p.t.Fatalf("call %d: %d tries, %d ends", id, p.tried[id], p.ends[id])
		}
		p.close(id)
	}
	p.close(uint64(len(p.m.records) + 1))
}

func samePacket(p, q api.Packet) bool {
	return p.ID == q.ID && p.From == q.From && p.To == q.To && bytes.Equal(p.Data, q.Data)
}

func sameCalls(l, m []api.Call) bool {
	if len(l) != len(m) {
		return false
	}
	for i := range l {
		if l[i] != m[i] {
			return false
		}
	}
	return true
}

// scribble is what a caller may do to bytes that it handed in or was answered: an inbox doesn't see it.
func scribble(b []byte) {
	b = b[:cap(b)]
	for i := range b {
		b[i] ^= 0xa5
	}
}

// smear is the same, for calls.
func smear(l []api.Call) {
	l = l[:cap(l)]
	for i := range l {
		l[i] = api.Call{ID: 1 << 60, To: -1, Since: -1, Tries: -1, Due: -1}
	}
}

// bytesOf is n bytes, which differ from their neighbours and with the kind.
func bytesOf(n int, kind byte) []byte {
	b := make([]byte, n)
	for i := range b {
		b[i] = kind + byte(i) + byte(i>>8)*7
	}
	return b
}

// packetText is a packet as a test tells it.
func packetText(p api.Packet) string {
	const digits = "0123456789abcdef"
	s := strconv.FormatUint(p.ID, 10) + " from " + strconv.Itoa(p.From) + " to " + strconv.Itoa(p.To) + " with"
	for i, c := range p.Data {
		if i == 20 {
			return s + " .."
		}
		s += " " + string(digits[c>>4]) + string(digits[c&15])
	}
	return s
}
