package ring_test

import (
	"math/bits"
	"slices"
	"strconv"
	"strings"
	"testing"

	"tontine/api"
	"tontine/ring"
)

// distance is how far it is from one position up to another.
func distance(from, to api.Pos) api.Pos {
	lo, borrow := bits.Sub64(to.Lo, from.Lo, 0)
	hi, _ := bits.Sub64(to.Hi, from.Hi, borrow)
	return api.Pos{Hi: hi, Lo: lo}
}

// nearer tells whether a distance is less than another one.
func nearer(a, b api.Pos) bool {
	_, borrow := bits.Sub64(a.Lo, b.Lo, 0)
	_, borrow = bits.Sub64(a.Hi, b.Hi, borrow)
	return borrow == 1
}

// isBetween is Between by distances: the whole way round is greater than each of them.
func isBetween(a, x, b api.Pos) bool {
	far := distance(a, x)
	return far != api.Pos{} && (a == b || nearer(far, distance(a, b)))
}

// knowledge is a ring as the chapter has it: asked is nil where the node is not joining, pred where it has none.
type knowledge struct {
	self  api.Peer
	pred  *api.Peer
	succs []api.Peer
	asked *int
}

func (k *knowledge) clean(l ...api.Peer) {
	if i := slices.IndexFunc(l, func(p api.Peer) bool { return p.Node == k.self.Node }); i >= 0 {
		l = l[:i]
	}
	k.succs = nil
	for i, p := range l {
		earlier := slices.ContainsFunc(l[:i], func(q api.Peer) bool { return q.Node == p.Node })
		if !earlier && len(k.succs) < mostSuccs {
			k.succs = append(k.succs, p)
		}
	}
	if len(k.succs) == 0 {
		k.succs = []api.Peer{k.self}
	}
}

func (k *knowledge) alone() bool { return k.asked == nil && k.succs[0].Node == k.self.Node }

func (k *knowledge) becomeAlone() {
	k.pred, k.asked, k.succs = nil, nil, []api.Peer{k.self}
}

func (k *knowledge) join(via int) ([]api.Msg, api.Errno) {
	if via < 0 || via > lastNode || via == k.self.Node {
		return nil, api.ErrArg
	}
	if !k.alone() {
		return nil, api.ErrRingState
	}
	k.asked = &via
	return []api.Msg{ask(k.self, via)}, api.OK
}

func (k *knowledge) stabilise() []api.Msg {
	if k.asked != nil {
		return []api.Msg{ask(k.self, *k.asked)}
	}
	if k.alone() {
		return nil
	}
	return []api.Msg{ask(k.self, k.succs[0].Node)}
}

// all is itself, its pred, or itself if it has none, and its succs.
func (k *knowledge) all() []api.Peer {
	pred := k.self
	if k.pred != nil {
		pred = *k.pred
	}
	return slices.Concat([]api.Peer{k.self, pred}, k.succs)
}

// mayBe tells whether a message meets none of the conditions of ErrRingPeer.
func (k *knowledge) mayBe(m api.Msg) bool {
	if !slices.Contains(ringKinds, m.Kind) || m.To != k.self.Node || m.From == k.self.Node || m.From != m.From&255 {
		return false
	}
	for _, p := range m.Peers {
		if p.Node != p.Node&255 {
			return false
		}
	}
	n := len(m.Peers)
	if m.Kind == api.MsgRingAsk {
		return n == 0
	}
	if m.Kind == api.MsgRingNotify && n != 1 || m.Kind != api.MsgRingNotify && (n < leastTold || n > mostTold) {
		return false
	}
	return m.Peers[0].Node == m.From
}

func (k *knowledge) handle(m api.Msg) ([]api.Msg, api.Errno) {
	if !k.mayBe(m) {
		return nil, api.ErrRingPeer
	}
	var out []api.Msg
	switch {
	case m.Kind == api.MsgRingAsk && k.asked == nil:
		out = []api.Msg{tell(k.self.Node, m.From, k.all()...)}
	case m.Kind == api.MsgRingTell && k.asked != nil && m.From == *k.asked:
		out = k.toldWhileJoining(m.Peers[0], m.Peers[2:])
	case m.Kind == api.MsgRingTell && k.asked == nil && m.From == k.succs[0].Node:
		out = k.told(m.Peers[0], m.Peers[1], m.Peers[2:])
	case m.Kind == api.MsgRingNotify && k.asked == nil:
		k.notified(m.Peers[0])
	case m.Kind == api.MsgRingLeave:
		k.left(m.Peers[0], m.Peers[1], m.Peers[2:])
	}
	return out, api.OK
}

func (k *knowledge) notifyFirst() []api.Msg {
	if k.succs[0].Node == k.self.Node {
		return nil
	}
	return []api.Msg{notify(k.self, k.succs[0].Node)}
}

func (k *knowledge) toldWhileJoining(t api.Peer, s []api.Peer) []api.Msg {
	if s[0].Node == t.Node || isBetween(t.Pos, k.self.Pos, s[0].Pos) {
		k.asked = nil
		k.clean(slices.Concat(s, []api.Peer{t})...)
		return k.notifyFirst()
	}
	var out []api.Msg
	for _, p := range s {
		if isBetween(t.Pos, p.Pos, k.self.Pos) {
			k.asked = &p.Node
			out = []api.Msg{ask(k.self, p.Node)}
		}
	}
	return out
}

func (k *knowledge) told(t, p api.Peer, s []api.Peer) []api.Msg {
	if p.Node != k.self.Node && isBetween(k.self.Pos, p.Pos, k.succs[0].Pos) {
		k.clean(slices.Concat([]api.Peer{p}, k.succs)...)
	} else {
		k.clean(slices.Concat([]api.Peer{t}, s)...)
	}
	return k.notifyFirst()
}

func (k *knowledge) notified(t api.Peer) {
	if k.pred == nil || isBetween(k.pred.Pos, t.Pos, k.self.Pos) {
		if k.alone() {
			k.succs = []api.Peer{t}
		}
		k.pred = &t
	}
}

func (k *knowledge) left(t, p api.Peer, s []api.Peer) {
	if k.asked != nil && *k.asked == t.Node {
		k.becomeAlone()
		return
	}
	if k.pred != nil && k.pred.Node == t.Node {
		k.pred = &p
		if p.Node == k.self.Node || p.Node == t.Node {
			k.pred = nil
		}
	}
	if i := slices.IndexFunc(k.succs, func(q api.Peer) bool { return q.Node == t.Node }); i >= 0 {
		others := slices.DeleteFunc(slices.Clone(s), func(q api.Peer) bool { return q.Node == t.Node })
		k.clean(slices.Concat(k.succs[:i], others, k.succs[i+1:])...)
	}
}

func (k *knowledge) leave() []api.Msg {
	var out []api.Msg
	if k.asked == nil && !k.alone() {
		to := []int{k.succs[0].Node}
		if k.pred != nil && k.pred.Node != k.self.Node {
			to = slices.Compact([]int{k.pred.Node, k.succs[0].Node})
		}
		for _, one := range to {
			out = append(out, leave(k.self.Node, one, k.all()...))
		}
	}
	k.becomeAlone()
	return out
}

func (k *knowledge) suspect(node int) {
	if k.asked != nil && *k.asked == node {
		k.becomeAlone()
	}
	k.clean(slices.DeleteFunc(slices.Clone(k.succs), func(p api.Peer) bool { return p.Node == node })...)
	if k.pred != nil && k.pred.Node == node {
		k.pred = nil
	}
}

func (k *knowledge) owns(p api.Pos) bool {
	switch {
	case k.asked != nil:
		return false
	case k.pred == nil:
		return k.alone()
	}
	return p == k.self.Pos || isBetween(k.pred.Pos, p, k.self.Pos)
}

// twins is a ring and its model, which get the same calls and must answer the same.
type twins struct {
	t *testing.T
	r *ring.Ring
	k *knowledge
}

func twinsOf(t *testing.T, self api.Peer) *twins {
	t.Helper()
	return &twins{t, made(t, self), &knowledge{self: self, succs: []api.Peer{self}}}
}

func (x *twins) join(via int) {
	x.t.Helper()
	got, e := x.r.Join(via)
	if want, wantE := x.k.join(via); !sameMsgs(got, want) || e != wantE {
		x.t.Fatalf("Join(%d): %s, %d, want %s, %d", via, short(got...), e, short(want...), wantE)
	}
	x.looks()
}

func (x *twins) handle(m api.Msg) []api.Msg {
	x.t.Helper()
	got, e := x.r.Handle(m)
	if want, wantE := x.k.handle(m); !sameMsgs(got, want) || e != wantE {
		x.t.Fatalf("%v: Handle(%s): %s, %d, want %s, %d", x.k, short(m), short(got...), e, short(want...), wantE)
	}
	x.looks()
	return got
}

func (x *twins) leave() []api.Msg {
	x.t.Helper()
	got := x.r.Leave()
	if want := x.k.leave(); !sameMsgs(got, want) {
		x.t.Fatalf("Leave: %s, want %s", short(got...), short(want...))
	}
	x.looks()
	return got
}

func (x *twins) suspect(node int) {
	x.t.Helper()
	x.r.Suspect(node)
	x.k.suspect(node)
	x.looks()
}

// looks asks for all that can be asked without a change; also Stabilise changes nothing.
func (x *twins) looks() []api.Msg {
	x.t.Helper()
	var want api.Peer
	if x.k.pred != nil {
		want = *x.k.pred
	}
	if p, ok := x.r.Pred(); p != want || ok != (x.k.pred != nil) {
		x.t.Fatalf("Pred: %v, %t, want %v, %t", p, ok, want, x.k.pred != nil)
	}
	if l := x.r.Succs(); !slices.Equal(l, x.k.succs) {
		x.t.Fatalf("Succs: %v, want %v", l, x.k.succs)
	}
	if x.r.Joined() != (x.k.asked == nil) {
		x.t.Fatalf("Joined: %t", x.r.Joined())
	}
	self := x.k.self.Pos
	for _, p := range []api.Pos{self, {Hi: self.Hi, Lo: self.Lo - 1}, {Hi: self.Hi, Lo: self.Lo + 1}, want.Pos, {Hi: want.Pos.Hi, Lo: want.Pos.Lo + 1}} {
		if got := x.r.Owns(p); got != x.k.owns(p) {
			x.t.Fatalf("Owns(%v): %t", p, got)
		}
	}
	got := x.r.Stabilise()
	if want := x.k.stabilise(); !sameMsgs(got, want) {
		x.t.Fatalf("Stabilise: %s, want %s", short(got...), short(want...))
	}
	return got
}

// short is messages as a test tells them.
func short(l ...api.Msg) string {
	var b strings.Builder
	for _, m := range l {
		b.WriteString(" " + [...]string{"Ask", "Tell", "Notify", "Leave", "Other"}[min(4, uint(m.Kind-api.MsgRingAsk))])
		b.WriteString(" " + strconv.Itoa(m.From) + " to " + strconv.Itoa(m.To) + " [")
		for _, p := range m.Peers {
			b.WriteString(" " + strconv.Itoa(p.Node) + "@" + strconv.FormatUint(p.Pos.Hi, 16) + ":" + strconv.FormatUint(p.Pos.Lo, 16))
		}
		b.WriteString(" ]")
	}
	return "{" + b.String() + " }"
}
