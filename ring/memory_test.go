package ring_test

import (
	"runtime"
	"slices"
	"testing"

	"tontine/api"
	"tontine/ring"
)

// scribble writes over a list, and over the memory behind its length.
func scribble(l []api.Peer) {
	for i := range l[:cap(l)] {
		l[:cap(l)][i] = peer(99, 99)
	}
}

func scribbleMsgs(l []api.Msg) {
	for _, m := range l {
		scribble(m.Peers)
	}
	for i := range l[:cap(l)] {
		l[:cap(l)][i] = api.Msg{Kind: api.MsgBeat, From: 99, To: 99}
	}
}

// The lists that a node tells are the caller's.
func TestAnswersAreTheCallers(t *testing.T) {
	self, pred := peer(7, 50), peer(2, 40)
	succs := []api.Peer{peer(1, 60), peer(3, 70), peer(4, 80), peer(2, 40)}
	r := between(t, pred, self, succs...)
	all := func() {
		t.Helper()
		knows(t, r, pred, succs...)
		stabilises(t, r, ask(self, 1))
		sends(t, r, ask(peer(3, 70), 7), tell(7, 3, append([]api.Peer{self, pred}, succs...)...))
	}
	all()
	scribble(r.Succs())
	all()
	scribbleMsgs(r.Stabilise())
	all()
	out, _ := r.Handle(ask(peer(3, 70), 7))
	scribbleMsgs(out)
	all()
	out, _ = r.Handle(tell(1, 7, append([]api.Peer{peer(1, 60), self}, succs[1:]...)...))
	scribbleMsgs(out)
	all()
	was := r.Succs()
	r.Suspect(1)
	r.Suspect(4)
	if !slices.Equal(was, succs) {
		t.Errorf("what was told is %v now", was)
	}
	first, second := r.Succs(), r.Succs()
	scribble(first)
	if !slices.Equal(second, []api.Peer{succs[1], succs[3]}) {
		t.Errorf("two answers share memory: %v", second)
	}

	alone := made(t, self)
	scribble(alone.Succs())
	knowsNoPred(t, alone, self)
	out, _ = alone.Handle(ask(peer(3, 70), 7))
	scribbleMsgs(out)
	knowsNoPred(t, alone, self)
	out, _ = alone.Join(3)
	scribbleMsgs(out)
	waits(t, alone, self, 3)
}

// The two messages of a Leave have each a list of its own.
func TestMessagesOfLeaveShareNoMemory(t *testing.T) {
	self, pred, succ := peer(7, 50), peer(2, 40), peer(1, 60)
	r := between(t, pred, self, succ)
	out := r.Leave()
	if len(out) != 2 {
		t.Fatalf("Leave: %s", short(out...))
	}
	scribble(out[0].Peers)
	if !slices.Equal(out[1].Peers, []api.Peer{self, pred, succ}) {
		t.Errorf("the second message is %s now", short(out[1]))
	}
	knowsNoPred(t, r, self)
}

// A message that was handled is the caller's again, and is as it was.
func TestHandleKeepsNothingOfItsArgument(t *testing.T) {
	self, one := peer(7, 50), peer(1, 60)
	after := func(r *ring.Ring, m api.Msg) {
		t.Helper()
		longer := append(slices.Clone(m.Peers), peer(88, 88), peer(89, 89), peer(90, 90))
		was := slices.Clone(longer)
		m.Peers = longer[:len(m.Peers)]
		out, e := r.Handle(m)
		if e != api.OK || !slices.Equal(longer, was) {
			t.Errorf("Handle(%s): %d; its peers are %v now", short(m), e, longer)
		}
		scribble(longer)
		scribbleMsgs(out)
	}
	r := joining(t, self, 1)
	after(r, tell(1, 7, peer(1, 10), peer(9, 5), peer(2, 20)))
	waits(t, r, self, 2)
	after(r, tell(2, 7, peer(2, 20), peer(9, 5), one, peer(3, 70), peer(4, 80)))
	knowsNoPred(t, r, one, peer(3, 70), peer(4, 80), peer(2, 20))
	after(r, notify(peer(2, 20), 7))
	knows(t, r, peer(2, 20), one, peer(3, 70), peer(4, 80), peer(2, 20))
	after(r, tell(1, 7, one, self, peer(5, 70), peer(6, 80)))
	knows(t, r, peer(2, 20), one, peer(5, 70), peer(6, 80))
	after(r, tell(1, 7, one, peer(8, 55), peer(5, 70)))
	knows(t, r, peer(2, 20), peer(8, 55), one, peer(5, 70), peer(6, 80))
	after(r, leave(8, 7, peer(8, 55), self, one, peer(9, 65), peer(10, 67)))
	knows(t, r, peer(2, 20), one, peer(9, 65), peer(10, 67), peer(5, 70))
	after(r, leave(2, 7, peer(2, 20), peer(11, 15), self))
	knows(t, r, peer(11, 15), one, peer(9, 65), peer(10, 67), peer(5, 70))

	r = made(t, self)
	after(r, notify(one, 7))
	knows(t, r, one, one)
	after(r, ask(one, 7))
	knows(t, r, one, one)
}

// heap is how much memory is in use.
func heap() uint64 {
	runtime.GC()
	var m runtime.MemStats
	runtime.ReadMemStats(&m)
	return m.HeapAlloc
}

// What a node keeps does not grow with what it has handled.
func TestRingsDoNotGrow(t *testing.T) {
	self, one := peer(7, 50), peer(1, 60)
	r := between(t, peer(2, 40), self, one)
	before := heap()
	for i := range 200000 {
		n := 10 + i%200
		r.Handle(tell(1, 7, one, peer(2, 40), peer(n, 70), peer(n+1, 80)))
		r.Handle(leave(n, 7, peer(n, 70), self, peer(n+2, 75), peer(n+3, 90)))
		r.Handle(notify(peer(n, 45), 7))
		r.Suspect(n)
		r.Stabilise()
		r.Handle(ask(one, 7))
	}
	if after := heap(); after > before+1<<20 {
		t.Errorf("%d bytes are in use, and before that %d", after, before)
	}
	runtime.KeepAlive(r)
}

// Of a long list of peers that is refused, and of a short piece of one that is taken, nothing is kept.
func TestRingsKeepNoLongLists(t *testing.T) {
	before := heap()
	var all []*ring.Ring
	for range 100 {
		r := ringOf(t, peer(7, 50), peer(1, 60))
		long := make([]api.Peer, 10000)
		long[0], long[1], long[2] = peer(1, 60), peer(7, 50), peer(3, 70)
		refuses(t, r, tell(1, 7, long...), api.ErrRingPeer)
		sends(t, r, tell(1, 7, long[:3]...), notify(peer(7, 50), 1))
		all = append(all, r)
	}
	if after := heap(); after > before+5<<20 {
		t.Errorf("%d bytes are in use, and before that %d", after, before)
	}
	runtime.KeepAlive(all)
}

// The same calls have the same answers, at each node (P2).
func TestAnswersHangOnTheCallsAlone(t *testing.T) {
	run := func() []api.Msg {
		var told []api.Msg
		var c crowd
		for node := range 6 {
			x := twinsOf(t, home(node))
			c.nodes = append(c.nodes, x)
			if node > 0 {
				x.join(node / 2)
			}
		}
		for i := range 60 {
			x := c.nodes[i%6]
			c.bag = append(c.bag, x.looks()...)
			told = append(told, c.bag...)
			for len(c.bag) > i%3 {
				c.arrive(i, 100)
			}
			if i == 40 {
				c.bag = append(c.bag, c.nodes[3].leave()...)
			}
		}
		return told
	}
	want := run()
	for range 20 {
		if got := run(); !sameMsgs(got, want) {
			t.Fatal("the same calls have other answers")
		}
	}
	if len(want) < 50 {
		t.Errorf("just %d messages", len(want))
	}
}
