package ring_test

import (
	"math"
	"reflect"
	"slices"
	"testing"

	"tontine/api"
	"tontine/ring"
)

// The calls, as the chapter lists them.
var (
	_ func(a, x, b api.Pos) bool                       = ring.Between
	_ func(self api.Peer) (*ring.Ring, api.Errno)      = ring.New
	_ func(*ring.Ring, int) ([]api.Msg, api.Errno)     = (*ring.Ring).Join
	_ func(*ring.Ring) []api.Msg                       = (*ring.Ring).Stabilise
	_ func(*ring.Ring, api.Msg) ([]api.Msg, api.Errno) = (*ring.Ring).Handle
	_ func(*ring.Ring) []api.Msg                       = (*ring.Ring).Leave
	_ func(*ring.Ring, int)                            = (*ring.Ring).Suspect
	_ func(*ring.Ring) []api.Peer                      = (*ring.Ring).Succs
	_ func(*ring.Ring) (api.Peer, bool)                = (*ring.Ring).Pred
	_ func(*ring.Ring) bool                            = (*ring.Ring).Joined
	_ func(*ring.Ring, api.Pos) bool                   = (*ring.Ring).Owns
)

// Numbers of the chapter, written a second time.
const (
	lastNode  = 255
	mostSuccs = 4
	leastTold = 3
	mostTold  = 6
)

var (
	// Numbers that are no node's, or that look like a node's in fewer bits.
	wrongNumbers = []int{math.MinInt, math.MinInt + 1, -(1 << 32), -(1 << 32) + 1, -256, -255, -2, -1, 256, 257, 258, 511, 512, 1 << 16, 1<<16 + 1, 1 << 31, 1 << 32, 1<<32 + 1, math.MaxInt - 1, math.MaxInt}
	// Positions in their order, among them such as differ in one half alone.
	positions = []api.Pos{
		{Hi: 0, Lo: 0}, {Hi: 0, Lo: 1}, {Hi: 0, Lo: 2}, {Hi: 0, Lo: 1 << 32}, {Hi: 0, Lo: math.MaxUint64 - 1}, {Hi: 0, Lo: math.MaxUint64},
		{Hi: 1, Lo: 0}, {Hi: 1, Lo: 1}, {Hi: 1, Lo: math.MaxUint64}, {Hi: 2, Lo: 0}, {Hi: 2, Lo: 2},
		{Hi: 1 << 31, Lo: 5}, {Hi: 1<<63 - 1, Lo: math.MaxUint64}, {Hi: 1 << 63, Lo: 0}, {Hi: 1 << 63, Lo: 1 << 63},
		{Hi: math.MaxUint64 - 1, Lo: math.MaxUint64}, {Hi: math.MaxUint64, Lo: 0}, {Hi: math.MaxUint64, Lo: 1},
		{Hi: math.MaxUint64, Lo: math.MaxUint64 - 1}, {Hi: math.MaxUint64, Lo: math.MaxUint64},
	}
	ringKinds = []api.MsgKind{api.MsgRingAsk, api.MsgRingTell, api.MsgRingNotify, api.MsgRingLeave}
)

func TestNumbersOfTheChapter(t *testing.T) {
	if api.OK != 0 || api.ErrArg != 1 || api.ErrRingState != 121 || api.ErrRingPeer != 122 {
		t.Error("the errors' numbers")
	}
	if api.Succs != mostSuccs {
		t.Error("the limit")
	}
	if api.MsgRingAsk != 17 || api.MsgRingTell != 18 || api.MsgRingNotify != 19 || api.MsgRingLeave != 20 {
		t.Error("the kinds' numbers")
	}
}

func TestRowsOfTheChapter(t *testing.T) {
	for _, row := range []struct {
		a, x, b uint64
		want    bool
	}{{1, 2, 3, true}, {3, 1, 2, true}, {2, 2, 2, false}, {2, 5, 2, true}, {1, 3, 3, false}} {
		if got := ring.Between(at(row.a), at(row.x), at(row.b)); got != row.want {
			t.Errorf("Between of %d, %d, %d: %t", row.a, row.x, row.b, got)
		}
	}
	mayNew(t, 256)

	a, b := peer(7, 10), peer(3, 20)
	x, y := made(t, a), made(t, b)
	joins(t, y, 7, ask(b, 7))
	sends(t, x, ask(b, 7), tell(7, 3, a, a, a))
	sends(t, y, tell(7, 3, a, a, a), notify(b, 7))
	sends(t, x, notify(b, 7))
	knows(t, x, b, b)
	knowsNoPred(t, y, a)

	stabilises(t, y, ask(b, 7))
	sends(t, x, ask(b, 7), tell(7, 3, a, b, b))
	sends(t, y, tell(7, 3, a, b, b), notify(b, 7))
	sends(t, x, notify(b, 7))
	stabilises(t, x, ask(a, 3))
	sends(t, y, ask(a, 3), tell(3, 7, b, b, a))
	sends(t, x, tell(3, 7, b, b, a), notify(a, 3))
	sends(t, y, notify(a, 3))
	knows(t, x, b, b)
	knows(t, y, a, a)
}

func TestNew(t *testing.T) {
	for node := -300; node <= 600; node++ {
		mayNew(t, node)
	}
	for _, wrong := range wrongNumbers {
		mayNew(t, wrong)
	}
}

// mayNew makes a node at many positions, and holds the answer against the bounds of the chapter.
func mayNew(t *testing.T, node int) {
	t.Helper()
	for _, p := range positions {
		self := api.Peer{Node: node, Pos: p}
		r, e := ring.New(self)
		if node < 0 || node > lastNode {
			if r != nil || e != api.ErrArg {
				t.Errorf("New(%v): %v, %d", self, r, e)
			}
			continue
		}
		if r == nil || e != api.OK {
			t.Fatalf("New(%v): %v, %d", self, r, e)
		}
		knowsNoPred(t, r, self)
		owns(t, r, true, positions...)
		stabilises(t, r)
	}
}

func TestNilRing(t *testing.T) {
	var r *ring.Ring
	a, b := peer(7, 10), peer(3, 20)
	for range 2 {
		for _, via := range []int{-1, 0, 3, 7, 255, 256, math.MinInt, math.MaxInt} {
			mayNotJoin(t, r, via, api.ErrArg)
			r.Suspect(via)
		}
		for _, m := range []api.Msg{{}, ask(a, 0), ask(a, 3), tell(7, 3, a, a, a), notify(a, 3), leave(7, 3, a, b, b), {Kind: api.MsgBeat, From: 7, To: 3}, {Kind: -1}} {
			refuses(t, r, m, api.ErrArg)
		}
		if l := r.Stabilise(); len(l) != 0 {
			t.Errorf("Stabilise: %v", l)
		}
		if l := r.Leave(); len(l) != 0 {
			t.Errorf("Leave: %v", l)
		}
		if l := r.Succs(); len(l) != 0 {
			t.Errorf("Succs: %v", l)
		}
		if p, ok := r.Pred(); p != (api.Peer{}) || ok {
			t.Errorf("Pred: %v, %t", p, ok)
		}
		if r.Joined() {
			t.Error("Joined")
		}
		for _, p := range positions {
			if r.Owns(p) {
				t.Errorf("Owns(%v)", p)
			}
		}
	}
}

// Nothing is promised of a Ring that New did not make, but that it does not panic.
func TestZeroRing(t *testing.T) {
	var r ring.Ring
	for range 2 {
		for _, kind := range ringKinds {
			for n := range 8 {
				for to := range 3 {
					r.Handle(api.Msg{Kind: kind, From: 1, To: to, Peers: slices.Repeat([]api.Peer{peer(1, 4)}, n)})
					r.Stabilise()
					r.Owns(at(2))
				}
			}
		}
		r.Succs()
		r.Pred()
		r.Joined()
		r.Leave()
		r.Join(1)
		r.Suspect(0)
	}
}

// Two nodes know nothing of each other but what messages tell, not even where they have the same number.
func TestRingsAreAlone(t *testing.T) {
	x, y := twinsOf(t, peer(1, 10)), twinsOf(t, peer(1, 10))
	x.join(2)
	y.looks()
	y.handle(notify(peer(3, 5), 1))
	x.looks()
	x.handle(tell(2, 1, peer(2, 5), peer(2, 5), peer(4, 20), peer(5, 30)))
	y.looks()
	y.suspect(4)
	y.leave()
	x.looks()
	x.suspect(4)
	y.looks()
}

func at(lo uint64) api.Pos { return api.Pos{Lo: lo} }

func peer(node int, lo uint64) api.Peer { return api.Peer{Node: node, Pos: at(lo)} }

func ask(self api.Peer, to int) api.Msg {
	return api.Msg{Kind: api.MsgRingAsk, From: self.Node, To: to}
}

func tell(from, to int, peers ...api.Peer) api.Msg {
	return api.Msg{Kind: api.MsgRingTell, From: from, To: to, Peers: peers}
}

func notify(self api.Peer, to int) api.Msg {
	return api.Msg{Kind: api.MsgRingNotify, From: self.Node, To: to, Peers: []api.Peer{self}}
}

func leave(from, to int, peers ...api.Peer) api.Msg {
	return api.Msg{Kind: api.MsgRingLeave, From: from, To: to, Peers: peers}
}

func made(t *testing.T, self api.Peer) *ring.Ring {
	t.Helper()
	r, e := ring.New(self)
	if r == nil || e != api.OK {
		t.Fatalf("New(%v): %v, %d", self, r, e)
	}
	knowsNoPred(t, r, self)
	return r
}

// ringOf is a node with these succs, that is not alone, and without a pred.
func ringOf(t *testing.T, self api.Peer, succs ...api.Peer) *ring.Ring {
	t.Helper()
	r := made(t, self)
	first := succs[0]
	joins(t, r, first.Node, ask(self, first.Node))
	// The one that is asked tells of itself as its own succ: this node comes behind it.
	sends(t, r, tell(first.Node, self.Node, first, first, first), notify(self, first.Node))
	told := append([]api.Peer{first, first}, succs[1:]...)
	if len(succs) == 1 {
		told = append(told, self)
	}
	sends(t, r, tell(first.Node, self.Node, told...), notify(self, first.Node))
	knowsNoPred(t, r, succs...)
	return r
}

// between is a node with a pred and these succs.
func between(t *testing.T, pred, self api.Peer, succs ...api.Peer) *ring.Ring {
	t.Helper()
	r := ringOf(t, self, succs...)
	sends(t, r, notify(pred, self.Node))
	knows(t, r, pred, succs...)
	return r
}

// joining is a node that has asked another one.
func joining(t *testing.T, self api.Peer, via int) *ring.Ring {
	t.Helper()
	r := made(t, self)
	joins(t, r, via, ask(self, via))
	waits(t, r, self, via)
	return r
}

// sameMsgs tells whether messages are the same ones in the same order; an empty list of peers may be nil or not.
func sameMsgs(got, want []api.Msg) bool {
	return slices.EqualFunc(got, want, func(a, b api.Msg) bool {
		same := slices.Equal(a.Peers, b.Peers)
		a.Peers, b.Peers = nil, nil
		return same && reflect.DeepEqual(a, b)
	})
}

// sends brings a message that is taken, and tells the messages that it leads to.
func sends(t *testing.T, r *ring.Ring, m api.Msg, want ...api.Msg) {
	t.Helper()
	if got, e := r.Handle(m); !sameMsgs(got, want) || e != api.OK {
		t.Errorf("Handle(%s): %s, %d, want %s", short(m), short(got...), e, short(want...))
	}
}

// refuses brings a message that is not taken.
func refuses(t *testing.T, r *ring.Ring, m api.Msg, want api.Errno) {
	t.Helper()
	if got, e := r.Handle(m); len(got) != 0 || e != want {
		t.Errorf("Handle(%s): %s, %d, want the error %d", short(m), short(got...), e, want)
	}
}

func joins(t *testing.T, r *ring.Ring, via int, want ...api.Msg) {
	t.Helper()
	if got, e := r.Join(via); !sameMsgs(got, want) || e != api.OK {
		t.Errorf("Join(%d): %s, %d, want %s", via, short(got...), e, short(want...))
	}
}

func mayNotJoin(t *testing.T, r *ring.Ring, via int, want api.Errno) {
	t.Helper()
	if got, e := r.Join(via); len(got) != 0 || e != want {
		t.Errorf("Join(%d): %s, %d, want the error %d", via, short(got...), e, want)
	}
}

// stabilises asks twice, since Stabilise changes nothing.
func stabilises(t *testing.T, r *ring.Ring, want ...api.Msg) {
	t.Helper()
	for range 2 {
		if got := r.Stabilise(); !sameMsgs(got, want) {
			t.Errorf("Stabilise: %s, want %s", short(got...), short(want...))
		}
	}
}

func leaves(t *testing.T, r *ring.Ring, want ...api.Msg) {
	t.Helper()
	if got := r.Leave(); !sameMsgs(got, want) {
		t.Errorf("Leave: %s, want %s", short(got...), short(want...))
	}
}

// succsAre asks twice, since Succs changes nothing.
func succsAre(t *testing.T, r *ring.Ring, want ...api.Peer) {
	t.Helper()
	for range 2 {
		if got := r.Succs(); !slices.Equal(got, want) {
			t.Errorf("Succs: %v, want %v", got, want)
		}
	}
}

func predIs(t *testing.T, r *ring.Ring, want api.Peer, is bool) {
	t.Helper()
	for range 2 {
		if got, ok := r.Pred(); got != want || ok != is {
			t.Errorf("Pred: %v, %t, want %v, %t", got, ok, want, is)
		}
	}
}

// knows holds what a node that is not joining knows against what it must be.
func knows(t *testing.T, r *ring.Ring, pred api.Peer, succs ...api.Peer) {
	t.Helper()
	predIs(t, r, pred, true)
	succsAre(t, r, succs...)
	joinedIs(t, r, true)
}

func knowsNoPred(t *testing.T, r *ring.Ring, succs ...api.Peer) {
	t.Helper()
	predIs(t, r, api.Peer{}, false)
	succsAre(t, r, succs...)
	joinedIs(t, r, true)
}

func joinedIs(t *testing.T, r *ring.Ring, want bool) {
	t.Helper()
	for range 2 {
		if got := r.Joined(); got != want {
			t.Errorf("Joined: %t", got)
		}
	}
}

// waits holds a node that is joining, and has no pred, against what it must be.
func waits(t *testing.T, r *ring.Ring, self api.Peer, asked int) {
	t.Helper()
	predIs(t, r, api.Peer{}, false)
	succsAre(t, r, self)
	joinedIs(t, r, false)
	stabilises(t, r, ask(self, asked))
	owns(t, r, false, self.Pos)
}

func owns(t *testing.T, r *ring.Ring, want bool, all ...api.Pos) {
	t.Helper()
	for _, p := range all {
		if got := r.Owns(p); got != want {
			t.Errorf("Owns(%v): %t", p, got)
		}
	}
}
