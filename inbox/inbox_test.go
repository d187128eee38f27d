package inbox_test

import (
	"errors"
	"math"
	"testing"

	"tontine/api"
	"tontine/inbox"
)

// The calls, as the chapter lists them.
var (
	_ func(int) (*inbox.Inbox, api.Errno)                    = inbox.New
	_ func(*inbox.Inbox, api.Packet) api.Errno               = (*inbox.Inbox).Put
	_ func(*inbox.Inbox) (api.Packet, bool)                  = (*inbox.Inbox).Take
	_ func(*inbox.Inbox) int                                 = (*inbox.Inbox).Len
	_ func(int64, int64, int) int64                          = inbox.Wait
	_ func(int, int64, int64, int) (*inbox.Calls, api.Errno) = inbox.NewCalls
	_ func(*inbox.Calls, int, int64) (uint64, api.Errno)     = (*inbox.Calls).Open
	_ func(*inbox.Calls, uint64) (api.Call, error)           = (*inbox.Calls).Close
	_ func(*inbox.Calls, int64) ([]api.Call, []api.Call)     = (*inbox.Calls).Due
	_ func(*inbox.Calls) (int64, bool)                       = (*inbox.Calls).Next
	_ func(*inbox.Calls) []api.Call                          = (*inbox.Calls).List
)

// Numbers of the chapter, written a second time.
const (
	mostRoom  = 256
	mostTries = 16
	lastTime  = 1 << 40
	longest   = 1 << 30
)

var (
	// Node numbers are arbitrary.
	nodes = []int{0, 1, 2, 11, 12, 1 << 31, math.MaxInt, math.MaxInt - 1, -1, -2, -(1 << 31), math.MinInt}
	// Rooms that are none.
	wrongRooms = []int{math.MinInt, -256, -2, -1, 0, 257, 258, 512, 1 << 16, 1 << 31, 1<<32 + 1, math.MaxInt}
	// Times that are none.
	wrongTimes = []int64{math.MinInt64, -lastTime, -2, -1, lastTime + 1, lastTime + 2, 2 * lastTime, 1 << 62, math.MaxInt64}
	// Numbers that no call has where few were opened.
	wrongNumbers = []uint64{0, 1 << 20, 1<<31 - 1, 1 << 32, 1<<63 - 1, 1 << 63, math.MaxUint64 - 1, math.MaxUint64}
)

func TestNumbersOfTheChapter(t *testing.T) {
	if api.ErrArg != 1 || api.ErrInboxFull != 81 || api.ErrInboxNone != 82 || api.ErrInboxGone != 83 {
		t.Error("the errors' numbers")
	}
	if api.MaxInbox != mostRoom || api.MaxTries != mostTries || api.MaxTime != lastTime {
		t.Error("the limits")
	}
}

func TestRowsOfTheChapter(t *testing.T) {
	waits := []struct {
		base, most int64
		k          int
		want       int64
	}{{10, 35, 0, 10}, {10, 35, 1, 20}, {10, 35, 2, 35}, {10, 35, 70, 35}, {0, 1, 0, 0}, {1, 1, -1, 0}}
	for _, w := range waits {
		waitIs(t, w.base, w.most, w.k, w.want)
	}

	c := calls(t, 2, 10, 35, 2)
	opens(t, c, 7, 100, 1, api.OK)
	dueIs(t, c, 109, nil, nil)
	dueIs(t, c, 110, []api.Call{{ID: 1, To: 7, Since: 100, Tries: 2, Due: 130}}, nil)

	dueIs(t, c, 130, nil, []api.Call{{ID: 1, To: 7, Since: 100, Tries: 2, Due: 130}})
	closes(t, c, 1, api.Call{}, api.ErrInboxGone)
	closes(t, c, 2, api.Call{}, api.ErrInboxNone)
}

func TestNilInbox(t *testing.T) {
	var b *inbox.Inbox
	for i := 0; i < 2; i++ {
		for _, p := range []api.Packet{{}, packetOf(1, 3), packetOf(math.MaxUint64, 70000), {From: -1, To: -1}} {
			puts(t, b, p, api.ErrArg)
		}
		empty(t, b)
	}
}

func TestNilCalls(t *testing.T) {
	var c *inbox.Calls
	for i := 0; i < 2; i++ {
		for _, now := range append([]int64{0, 1, lastTime}, wrongTimes...) {
			for _, to := range nodes {
				opens(t, c, to, now, 0, api.ErrArg)
			}
			dueIs(t, c, now, nil, nil)
		}
		for _, id := range append([]uint64{1, 2}, wrongNumbers...) {
			closes(t, c, id, api.Call{}, api.ErrArg)
		}
		listIs(t, c)
	}
}

// Two of each know nothing of each other.
func TestInboxesAreAlone(t *testing.T) {
	a, b := queueOf(t, 3), queueOf(t, 2)
	a.put(packetOf(1, 4))
	b.put(packetOf(2, 5))
	b.put(packetOf(3, 6))
	b.put(packetOf(4, 7))
	a.put(packetOf(5, 8))
	b.take()
	a.put(packetOf(6, 9))
	a.put(packetOf(7, 1))
	for range 4 {
		a.take()
		b.take()
	}
}

func TestCallsAreAlone(t *testing.T) {
	a, b := pairOf(t, 3, 5, 40, 3), pairOf(t, 2, 7, 7, 1)
	both := func() {
		t.Helper()
		a.looks()
		b.looks()
	}
	both()
	a.open(1, 100)
	b.open(2, 90)
	both()
	b.open(3, 95)
	b.open(4, 95)
	both()
	a.due(105)
	both()
	b.due(97)
	both()
	a.close(1)
	both()
	b.close(2)
	a.open(5, 106)
	both()
}

// packetOf is a packet with a number and that many bytes.
func packetOf(id uint64, n int) api.Packet {
	return api.Packet{ID: id, From: nodes[id%12], To: nodes[id/12%12], Data: bytesOf(n, byte(id))}
}

func callOf(id uint64, to int, since int64, tries int, due int64) api.Call {
	return api.Call{ID: id, To: to, Since: since, Tries: tries, Due: due}
}

// made is an inbox that must be there.
func made(t *testing.T, room int) *inbox.Inbox {
	t.Helper()
	b, e := inbox.New(room)
	if b == nil || e != api.OK {
		t.Fatalf("New(%d): %v, %d", room, b, e)
	}
	return b
}

// calls are calls that must be there.
func calls(t *testing.T, room int, base, most int64, tries int) *inbox.Calls {
	t.Helper()
	c, e := inbox.NewCalls(room, base, most, tries)
	if c == nil || e != api.OK {
		t.Fatalf("NewCalls(%d, %d, %d, %d): %v, %d", room, base, most, tries, c, e)
	}
	return c
}

func puts(t *testing.T, b *inbox.Inbox, p api.Packet, want api.Errno) {
	t.Helper()
	if e := b.Put(p); e != want {
		t.Errorf("Put of packet %d: %d, want %d", p.ID, e, want)
	}
}

// takes takes a packet that must be there.
func takes(t *testing.T, b *inbox.Inbox, want api.Packet) {
	t.Helper()
	p, is := b.Take()
	if !is || !samePacket(p, want) {
		t.Errorf("Take: %s, %t, want %s", packetText(p), is, packetText(want))
	}
}

// empty asks an inbox for packets, of which there must be none.
func empty(t *testing.T, b *inbox.Inbox) {
	t.Helper()
	if n := b.Len(); n != 0 {
		t.Errorf("Len: %d, want 0", n)
	}
	if p, is := b.Take(); is || !samePacket(p, api.Packet{}) || len(p.Data) != 0 {
		t.Errorf("Take of nothing: %s, %t", packetText(p), is)
	}
	if n := b.Len(); n != 0 {
		t.Errorf("Len: %d, want 0", n)
	}
}

func holds(t *testing.T, b *inbox.Inbox, want int) {
	t.Helper()
	if n := b.Len(); n != want {
		t.Errorf("Len: %d, want %d", n, want)
	}
}

func opens(t *testing.T, c *inbox.Calls, to int, now int64, want uint64, wantE api.Errno) {
	t.Helper()
	if id, e := c.Open(to, now); id != want || e != wantE {
		t.Errorf("Open(%d, %d): %d, %d, want %d, %d", to, now, id, e, want, wantE)
	}
}

func closes(t *testing.T, c *inbox.Calls, id uint64, want api.Call, wantE api.Errno) {
	t.Helper()
	x, err := c.Close(id)
	if x != want {
		t.Errorf("Close(%d): %v, want %v", id, x, want)
	}
	if why := notFault(err, wantE); why != "" {
		t.Errorf("Close(%d): %v, want %d: %s", id, err, wantE, why)
	}
}

func dueIs(t *testing.T, c *inbox.Calls, now int64, again, over []api.Call) {
	t.Helper()
	gotAgain, gotOver := c.Due(now)
	if !sameCalls(gotAgain, again) {
		t.Errorf("Due(%d): %v are made again, want %v", now, gotAgain, again)
	}
	if !sameCalls(gotOver, over) {
		t.Errorf("Due(%d): %v are given up, want %v", now, gotOver, over)
	}
}

// listIs asks for all calls, of which the time that is next follows.
func listIs(t *testing.T, c *inbox.Calls, want ...api.Call) {
	t.Helper()
	if got := c.List(); !sameCalls(got, want) {
		t.Errorf("List: %v, want %v", got, want)
	}
	var next int64
	for i, x := range want {
		if i == 0 || x.Due < next {
			next = x.Due
		}
	}
	if got, is := c.Next(); got != next || is != (len(want) > 0) {
		t.Errorf("Next: %d, %t, want %d, %t", got, is, next, len(want) > 0)
	}
}

// notFault is why an error is not the one of a number, and nothing if it is.
func notFault(err error, want api.Errno) string {
	if want == api.OK {
		if err != nil {
			return "it is not nil"
		}
		return ""
	}
	f, is := err.(*api.Fault)
	if !is || f == nil {
		return "it is no *api.Fault"
	}
	if f.Err != want || f.Of != "call" {
		return "its fields are others"
	}
	for _, e := range []api.Errno{api.OK, api.ErrArg, api.ErrInboxFull, api.ErrInboxNone, api.ErrInboxGone} {
		if errors.Is(err, e) != (e == want) {
			return "errors.Is finds another number"
		}
	}
	var found *api.Fault
	if !errors.As(err, &found) || found != f {
		return "errors.As does not find it"
	}
	return ""
}
