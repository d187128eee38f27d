package routing_test

import (
	"math"
	"reflect"
	"slices"
	"testing"

	"tontine/api"
	"tontine/routing"
)

// The calls, as the chapter lists them.
var (
	_ func(self, pred, succ api.Peer) (*routing.Table, api.Errno)        = routing.New
	_ func(*routing.Table, int, []api.Peer) api.Errno                    = (*routing.Table).Learn
	_ func(*routing.Table) []api.Peer                                    = (*routing.Table).Fingers
	_ func(*routing.Table, api.Pos) (api.Peer, bool, api.Errno)          = (*routing.Table).Step
	_ func(*routing.Table, api.Msg) (api.Msg, api.Errno)                 = (*routing.Table).Handle
	_ func(t *routing.Table, to api.Pos) (next api.Peer, ownerOfTo bool) = (*routing.Table).Walk
)

// Numbers of the chapter, written a second time.
const (
	lastNode    = 255
	mostFingers = 4
	mostHops    = 8
	lastHops    = 255
)

const greatest = math.MaxUint64

var (
	// Numbers that are no node's, or that look like a node's in fewer bits.
	wrongNumbers = []int{math.MinInt, math.MinInt + 1, -(1 << 32), -(1 << 32) + 1, -256, -255, -2, -1, 256, 257, 258, 511, 512, 1 << 16, 1<<16 + 1, 1 << 31, 1 << 32, 1<<32 + 1, math.MaxInt - 1, math.MaxInt}
	// Positions in their order, among them such as differ in one half alone.
	positions = []api.Pos{
		{Hi: 0, Lo: 0}, {Hi: 0, Lo: 1}, {Hi: 0, Lo: 2}, {Hi: 0, Lo: 1 << 32}, {Hi: 0, Lo: greatest},
		{Hi: 1, Lo: 0}, {Hi: 1, Lo: 1}, {Hi: 1, Lo: greatest}, {Hi: 2, Lo: 0}, {Hi: 2, Lo: 2},
		{Hi: 1<<63 - 1, Lo: greatest}, {Hi: 1 << 63, Lo: 0}, {Hi: 1 << 63, Lo: 1 << 63},
		{Hi: greatest - 1, Lo: greatest}, {Hi: greatest, Lo: 0}, {Hi: greatest, Lo: 1},
		{Hi: greatest, Lo: greatest - 1}, {Hi: greatest, Lo: greatest},
	}
)

func TestNumbersOfTheChapter(t *testing.T) {
	if api.OK != 0 || api.ErrArg != 1 || api.ErrRouteNone != 131 || api.ErrRouteHops != 132 || api.ErrRouteForm != 133 {
		t.Error("the errors' numbers")
	}
	if api.Fingers != mostFingers || api.MaxHops != mostHops {
		t.Error("the limits")
	}
	if api.MsgLook != 21 || api.MsgFound != 22 {
		t.Error("the kinds' numbers")
	}
}

func TestRowsOfTheChapter(t *testing.T) {
	mayNotNew(t, peer(1, 10), peer(1, 10), peer(2, 20), api.ErrRouteForm)

	x := made(t, peer(1, 10), peer(4, 40), peer(2, 20))
	steps(t, x, at(10), peer(1, 10), true)
	steps(t, x, at(45), peer(1, 10), true)
	steps(t, x, at(15), peer(2, 20), true)
	steps(t, x, at(35), peer(2, 20), false)

	second := made(t, peer(2, 20), peer(1, 10), peer(3, 30))
	learns(t, x, 1, second.Fingers()...)
	steps(t, x, at(35), peer(3, 30), false)

	refuses(t, x, look(4, 1, at(35), 258, 8), api.ErrRouteHops)
	answers(t, x, look(4, 1, at(35), 258, 0), look(1, 3, at(35), 258, 1))
	answers(t, x, look(4, 1, at(15), 258, 8), found(1, 2, at(15), 258, 8, peer(2, 20)))
	answers(t, x, look(4, 1, at(15), 258, 0), found(1, 2, at(15), 258, 0, peer(2, 20)))
}

// All threes of numbers, held against the words: a number that is none comes ahead of the form.
func TestNew(t *testing.T) {
	numbers := append([]int{0, 1, 2, 128, 254, 255}, wrongNumbers...)
	for i, self := range numbers {
		for k, pred := range numbers {
			for l, succ := range numbers {
				mayNew(t, api.Peer{Node: self, Pos: positions[i%5]}, api.Peer{Node: pred, Pos: positions[k%7]}, api.Peer{Node: succ, Pos: positions[l%9]})
			}
		}
	}
}

// Each number in each of the three peers, where the two others are right.
func TestNewWithEachNumber(t *testing.T) {
	for node := -300; node <= 600; node++ {
		for _, p := range positions {
			one := api.Peer{Node: node, Pos: p}
			mayNew(t, one, peer(7, 40), peer(9, 60))
			mayNew(t, peer(7, 50), one, peer(9, 60))
			mayNew(t, peer(7, 50), peer(9, 40), one)
			mayNew(t, one, one, one)
		}
	}
}

func mayNew(t *testing.T, self, pred, succ api.Peer) {
	t.Helper()
	is := func(n int) bool { return 0 <= n && n <= lastNode }
	switch {
	case !is(self.Node) || !is(pred.Node) || !is(succ.Node):
		mayNotNew(t, self, pred, succ, api.ErrArg)
	case self.Node == pred.Node && self.Node != succ.Node, self.Node != pred.Node && self.Node == succ.Node:
		mayNotNew(t, self, pred, succ, api.ErrRouteForm)
	default:
		made(t, self, pred, succ)
	}
}

func TestNewKnowsOneNeighbour(t *testing.T) {
	for _, node := range []int{0, 1, 254, 255} {
		for _, self := range positions {
			for _, other := range positions {
				one, two := api.Peer{Node: node, Pos: self}, api.Peer{Node: node ^ 3, Pos: other}
				mayNotNew(t, one, one, two, api.ErrRouteForm)
				mayNotNew(t, one, two, one, api.ErrRouteForm)
				// It is the number that counts, not where the peer stands.
				here := api.Peer{Node: node, Pos: other}
				mayNotNew(t, one, here, two, api.ErrRouteForm)
				mayNotNew(t, one, two, here, api.ErrRouteForm)
				isAlone(t, made(t, one, one, one), one)
				isAlone(t, made(t, one, here, one), one)
				isAlone(t, made(t, one, one, here), one)
				isAlone(t, made(t, one, here, here), one)
				made(t, one, two, two)
			}
		}
	}
}

// isAlone holds a table against one that knows nobody else.
func isAlone(t *testing.T, x *routing.Table, self api.Peer) {
	t.Helper()
	for i := -2; i <= 5; i++ {
		mayNotLearn(t, x, i)
		mayNotLearn(t, x, i, peer(8, 5), peer(9, 15), peer(10, 25), peer(11, 35))
	}
	fingersAre(t, x)
	for _, p := range append([]api.Pos{self.Pos, next(self.Pos)}, positions...) {
		steps(t, x, p, self, true)
		walks(t, x, p, self, true)
	}
	answers(t, x, look(3, self.Node, at(77), 5, 200), found(self.Node, 5, at(77), 5, 200, self))
}

// A node is told by its number: neighbours with its own are the node itself, wherever they stand.
func TestNeighboursWithItsNumberElsewhere(t *testing.T) {
	self := peer(7, 50)
	for _, pred := range append([]api.Pos{self.Pos, next(self.Pos), before(self.Pos)}, positions...) {
		for _, succ := range append([]api.Pos{self.Pos, next(self.Pos), before(self.Pos)}, positions...) {
			isAlone(t, made(t, self, api.Peer{Node: 7, Pos: pred}, api.Peer{Node: 7, Pos: succ}), self)
		}
	}
	x := made(t, self, peer(7, 40), peer(7, 60))
	answers(t, x, look(3, 7, at(61), 5, 0), found(7, 5, at(61), 5, 0, self))
	answers(t, x, look(3, 7, at(55), 5, 8), found(7, 5, at(55), 5, 8, self))
}

// The position alone does not make a succ the node itself, if its number is another one.
func TestSuccWithAnotherNumberAtItsPosition(t *testing.T) {
	for _, pos := range positions {
		self, twin := api.Peer{Node: 7, Pos: pos}, api.Peer{Node: 8, Pos: pos}
		x := made(t, self, api.Peer{Node: 9, Pos: next(pos)}, twin)
		fingersAre(t, x, twin)
		steps(t, x, next(pos), twin, true)
		walks(t, x, next(pos), twin, false)
		learns(t, x, 1)
	}
}

func TestTableThatIsAlone(t *testing.T) {
	for _, node := range []int{0, 1, 254, 255} {
		for _, p := range positions {
			self := api.Peer{Node: node, Pos: p}
			isAlone(t, made(t, self, self, self), self)
		}
	}
}

func TestNilTable(t *testing.T) {
	var x *routing.Table
	for range 2 {
		for i := -1; i <= 5; i++ {
			mayNotLearn(t, x, i)
			mayNotLearn(t, x, i, peer(1, 10))
			mayNotLearn(t, x, i, peer(-1, 10))
			mayNotLearn(t, x, i, peer(1, 10), peer(2, 20), peer(3, 30), peer(4, 40), peer(5, 50))
		}
		fingersAre(t, x)
		for _, p := range positions {
			if got, owner, e := x.Step(p); got != (api.Peer{}) || owner || e != api.ErrArg {
				t.Errorf("Step(%v): %v, %t, %d", p, got, owner, e)
			}
			walks(t, x, p, api.Peer{}, false)
		}
		for _, m := range []api.Msg{{}, look(1, 0, at(5), 7, 0), look(1, 2, at(5), 7, 8), look(-1, 0, at(5), 7, 0), look(1, 0, at(5), 7, 256), {Kind: api.MsgBeat}, {Kind: -1}} {
			refuses(t, x, m, api.ErrArg)
		}
	}
}

// Nothing is promised of a Table that New did not make, but that it does not panic.
func TestZeroTable(t *testing.T) {
	var x routing.Table
	for i := range 5 {
		x.Learn(i, []api.Peer{peer(1, 10), peer(2, 20), peer(3, 30)})
		x.Fingers()
		x.Step(at(5))
		x.Walk(at(5))
		x.Handle(look(1, 0, at(5), 7, i))
	}
}

func at(lo uint64) api.Pos { return api.Pos{Lo: lo} }

func peer(node int, lo uint64) api.Peer { return api.Peer{Node: node, Pos: at(lo)} }

// next is a position's direct successor.
func next(p api.Pos) api.Pos {
	p.Lo++
	if p.Lo == 0 {
		p.Hi++
	}
	return p
}

// before is the position whose direct successor it is.
func before(p api.Pos) api.Pos {
	if p.Lo == 0 {
		p.Hi--
	}
	p.Lo--
	return p
}

func look(from, to int, pos api.Pos, id uint64, hops int) api.Msg {
	return api.Msg{Kind: api.MsgLook, From: from, To: to, Pos: pos, ID: id, Hops: hops}
}

func found(from, to int, pos api.Pos, id uint64, hops int, owner api.Peer) api.Msg {
	return api.Msg{Kind: api.MsgFound, From: from, To: to, Pos: pos, ID: id, Hops: hops, Peers: []api.Peer{owner}}
}

func made(t *testing.T, self, pred, succ api.Peer) *routing.Table {
	t.Helper()
	x, e := routing.New(self, pred, succ)
	if x == nil || e != api.OK {
		t.Fatalf("New(%v, %v, %v): %v, %d", self, pred, succ, x, e)
	}
	if self.Node == succ.Node {
		fingersAre(t, x)
	} else {
		fingersAre(t, x, succ)
	}
	return x
}

func mayNotNew(t *testing.T, self, pred, succ api.Peer, want api.Errno) {
	t.Helper()
	if x, e := routing.New(self, pred, succ); x != nil || e != want {
		t.Errorf("New(%v, %v, %v): %v, %d, want the error %d", self, pred, succ, x, e, want)
	}
}

// withFingers is the table of a node with these fingers, of which the first one is its succ.
func withFingers(t *testing.T, pred, self api.Peer, fingers ...api.Peer) *routing.Table {
	t.Helper()
	x := made(t, self, pred, fingers[0])
	for i := range fingers[1:] {
		learns(t, x, i+1, fingers[1:]...)
	}
	fingersAre(t, x, fingers...)
	return x
}

func learns(t *testing.T, x *routing.Table, i int, of ...api.Peer) {
	t.Helper()
	if e := x.Learn(i, of); e != api.OK {
		t.Errorf("Learn(%d, %v): %d", i, of, e)
	}
}

func mayNotLearn(t *testing.T, x *routing.Table, i int, of ...api.Peer) {
	t.Helper()
	if e := x.Learn(i, of); e != api.ErrArg {
		t.Errorf("Learn(%d, %v): %d", i, of, e)
	}
}

// fingersAre asks twice, since Fingers changes nothing.
func fingersAre(t *testing.T, x *routing.Table, want ...api.Peer) {
	t.Helper()
	for range 2 {
		if got := x.Fingers(); !slices.Equal(got, want) {
			t.Errorf("Fingers: %v, want %v", got, want)
		}
	}
}

func steps(t *testing.T, x *routing.Table, target api.Pos, want api.Peer, owner bool) {
	t.Helper()
	for range 2 {
		if got, is, e := x.Step(target); got != want || is != owner || e != api.OK {
			t.Errorf("Step(%v): %v, %t, %d, want %v, %t", target, got, is, e, want, owner)
		}
	}
}

func walks(t *testing.T, x *routing.Table, to api.Pos, want api.Peer, last bool) {
	t.Helper()
	for range 2 {
		if got, is := x.Walk(to); got != want || is != last {
			t.Errorf("Walk(%v): %v, %t, want %v, %t", to, got, is, want, last)
		}
	}
}

// sameMsg tells whether two messages are the same; an empty list of peers may be nil or not.
func sameMsg(a, b api.Msg) bool {
	same := slices.Equal(a.Peers, b.Peers)
	a.Peers, b.Peers = nil, nil
	return same && reflect.DeepEqual(a, b)
}

func answers(t *testing.T, x *routing.Table, m, want api.Msg) {
	t.Helper()
	if got, e := x.Handle(m); !sameMsg(got, want) || e != api.OK {
		t.Errorf("Handle(%+v): %+v, %d, want %+v", m, got, e, want)
	}
}

func refuses(t *testing.T, x *routing.Table, m api.Msg, want api.Errno) {
	t.Helper()
	if got, e := x.Handle(m); !sameMsg(got, api.Msg{}) || e != want {
		t.Errorf("Handle(%+v): %+v, %d, want the error %d", m, got, e, want)
	}
}
