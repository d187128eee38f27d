package routing_test

import (
	"math/bits"
	"slices"
	"testing"

	"tontine/api"
	"tontine/routing"
)

// distance is how far it is from one position up to another.
func distance(from, to api.Pos) api.Pos {
	lo, borrow := bits.Sub64(to.Lo, from.Lo, 0)
	hi, _ := bits.Sub64(to.Hi, from.Hi, borrow)
	return api.Pos{Hi: hi, Lo: lo}
}

// nearer tells whether a distance is less than another one.
func nearer(a, b api.Pos) bool {
	_, borrow := bits.Sub64(a.Lo, b.Lo, 0)
	_, borrow = bits.Sub64(a.Hi, b.Hi, borrow)
	return borrow == 1
}

// isBetween measures: the whole way round is greater than each distance.
func isBetween(a, x, b api.Pos) bool {
	far := distance(a, x)
	return far != api.Pos{} && (a == b || nearer(far, distance(a, b)))
}

// view is a table as the chapter has it: further are its fingers from 1 on.
type view struct {
	self, pred, succ api.Peer
	further          []api.Peer
}

// alone goes by the number, wherever the succ stands.
func (v *view) alone() bool { return v.succ.Node == v.self.Node }

func (v *view) fingers() []api.Peer {
	if v.alone() {
		return nil
	}
	return slices.Concat([]api.Peer{v.succ}, v.further)
}

func (v *view) learn(i int, of []api.Peer) api.Errno {
	fingers := v.fingers()
	wrong := i < 1 || i > 3 || len(fingers) < i || len(of) > mostFingers
	for _, p := range of {
		wrong = wrong || p.Node != p.Node&255
	}
	if wrong {
		return api.ErrArg
	}
	v.further = slices.Clone(fingers[1:i])
	for k, p := range of {
		if k == i-1 && isBetween(fingers[k].Pos, p.Pos, v.self.Pos) {
			v.further = append(v.further, p)
		}
	}
	return api.OK
}

func (v *view) own(p api.Pos) bool {
	return v.alone() || p == v.self.Pos || isBetween(v.pred.Pos, p, v.self.Pos)
}

func (v *view) step(target api.Pos) (p api.Peer, owner bool, e api.Errno) {
	if v.own(target) {
		return v.self, true, api.OK
	}
	if target == v.succ.Pos || isBetween(v.self.Pos, target, v.succ.Pos) {
		return v.succ, true, api.OK
	}
	e = api.ErrRouteNone
	for _, f := range v.fingers() {
		if isBetween(v.self.Pos, f.Pos, target) {
			p, e = f, api.OK
		}
	}
	return p, false, e
}

func (v *view) handle(m api.Msg) (api.Msg, api.Errno) {
	if m.Kind != api.MsgLook || m.To != v.self.Node || m.From != m.From&255 || m.Hops != m.Hops&255 {
		return api.Msg{}, api.ErrRouteForm
	}
	p, owner, e := v.step(m.Pos)
	if e != api.OK {
		return api.Msg{}, e
	}
	if owner {
		return found(v.self.Node, int(m.ID&255), m.Pos, m.ID, m.Hops, p), api.OK
	}
	if m.Hops >= mostHops {
		return api.Msg{}, api.ErrRouteHops
	}
	return look(v.self.Node, p.Node, m.Pos, m.ID, m.Hops+1), api.OK
}

func (v *view) walk(to api.Pos) (api.Peer, bool) {
	if v.own(to) {
		return v.self, true
	}
	return v.succ, false
}

// twins is a table and its model, which get the same calls and must answer the same.
type twins struct {
	t *testing.T
	x *routing.Table
	v *view
}

func twinsOf(t *testing.T, self, pred, succ api.Peer) *twins {
	t.Helper()
	return &twins{t, made(t, self, pred, succ), &view{self: self, pred: pred, succ: succ}}
}

func (w *twins) learn(i int, of ...api.Peer) {
	w.t.Helper()
	got := w.x.Learn(i, of)
	if want := w.v.learn(i, of); got != want {
		w.t.Fatalf("%v: Learn(%d, %v): %d, want %d", w.v, i, of, got, want)
	}
	w.looks()
}

func (w *twins) looks() {
	w.t.Helper()
	if got := w.x.Fingers(); !slices.Equal(got, w.v.fingers()) {
		w.t.Fatalf("%v: Fingers: %v", w.v, got)
	}
}

// asks asks both ways for a position; that a table has no finger to ask is never the answer.
func (w *twins) asks(target api.Pos) {
	w.t.Helper()
	p, owner, e := w.x.Step(target)
	if q, is, want := w.v.step(target); p != q || owner != is || e != want || e != api.OK {
		w.t.Fatalf("%v: Step(%v): %v, %t, %d, want %v, %t, %d", w.v, target, p, owner, e, q, is, want)
	}
	p, last := w.x.Walk(target)
	if q, is := w.v.walk(target); p != q || last != is {
		w.t.Fatalf("%v: Walk(%v): %v, %t, want %v, %t", w.v, target, p, last, q, is)
	}
}

func (w *twins) handle(m api.Msg) {
	w.t.Helper()
	got, e := w.x.Handle(m)
	if want, wantE := w.v.handle(m); !sameMsg(got, want) || e != wantE {
		w.t.Fatalf("%v: Handle(%+v): %+v, %d, want %+v, %d", w.v, m, got, e, want, wantE)
	}
}
