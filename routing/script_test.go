package routing_test

import (
	"math/rand/v2"
	"testing"

	"tontine/api"
	"tontine/routing"
)

// script is bytes that are read as calls; behind their end are zeros.
type script struct {
	rest []byte
}

func (s *script) take() int {
	if len(s.rest) == 0 {
		return 0
	}
	b := s.rest[0]
	s.rest = s.rest[1:]
	return int(b)
}

// node is most often one of few.
func (s *script) node() int {
	b := s.take()
	if b < 250 {
		return b % 8
	}
	return []int{-1, 256, 255, 254}[b%4]
}

// pos is most often one of few on a small ring, so that many are equal or adjacent.
func (s *script) pos() api.Pos {
	b := s.take()
	if b < 220 {
		return at(uint64(b % 12))
	}
	return positions[b%len(positions)]
}

// peer stands most often where a peer with its number always stands.
func (s *script) peer() api.Peer {
	b := s.take()
	if b < 150 {
		node := b % 8
		return peer(node, uint64(node*5%8+1))
	}
	return api.Peer{Node: s.node(), Pos: s.pos()}
}

func (s *script) hops() int {
	b := s.take()
	if b < 200 {
		return b % 10
	}
	return []int{-1, 7, 8, 9, 254, 255, 256, 1 << 32}[b%8]
}

func (s *script) id() uint64 {
	return uint64(s.take()) * []uint64{1, 3, 1 << 8, 1 << 32, 1<<56 + 1}[s.take()%5]
}

// msg is most often one that is taken.
func (s *script) msg(v *view) api.Msg {
	m := look(s.node(), v.self.Node, s.pos(), s.id(), s.hops())
	switch s.take() {
	case 255:
		m.To++
	case 254:
		m.Kind = api.MsgFound
	case 253:
		m.Kind = api.MsgNone
	case 252:
		m = full(m)
	}
	return m
}

// table is one whose neighbours are most often others.
func (s *script) table(t *testing.T) *twins {
	for {
		self, pred, succ := s.peer(), s.peer(), s.peer()
		if len(s.rest) == 0 {
			self, pred, succ = peer(1, 5), peer(2, 2), peer(3, 7)
		}
		if _, e := routing.New(self, pred, succ); e == api.OK {
			return twinsOf(t, self, pred, succ)
		}
		mayNew(t, self, pred, succ)
	}
}

// tableBy plays a script to a table and to its model.
func tableBy(t *testing.T, bytes []byte) {
	s := &script{bytes}
	w := s.table(t)
	for len(s.rest) > 0 {
		switch b := s.take(); {
		case b < 110:
			i := b%3 + 1
			if b >= 100 {
				i = s.node() - 2
			}
			w.learn(i, s.peers()...)
		case b < 180:
			w.asks(s.pos())
		case b < 254:
			w.handle(s.msg(w.v))
		default:
			w = s.table(t)
		}
	}
}

func (s *script) peers() []api.Peer {
	n := s.take()
	if n >= 250 {
		n = 5
	} else {
		n %= 5
	}
	var l []api.Peer
	for range n {
		l = append(l, s.peer())
	}
	return l
}

// crowdBy plays a script to tables that learn from each other, and hand lookups on to each other.
func crowdBy(t *testing.T, bytes []byte) {
	s := &script{bytes}
	n := 2 + s.take()%7
	var l []*twins
	for node := range n {
		self, pred, succ := peer(node, uint64(node*3)), (node+n-1)%n, (node+1)%n
		if s.take() > 200 {
			succ = (node + 1 + s.take()%(n-1)) % n
		}
		l = append(l, twinsOf(t, self, peer(pred, uint64(pred*3)), peer(succ, uint64(succ*3))))
	}
	for len(s.rest) > 0 {
		w := l[s.take()%n]
		switch b := s.take(); {
		case b < 128:
			w.learn(b%4, l[s.take()%n].x.Fingers()...)
		default:
			m := s.msg(w.v)
			for range 12 {
				w.handle(m)
				out, _ := w.x.Handle(m)
				if out.Kind != api.MsgLook {
					break
				}
				m, w = out, l[out.To]
			}
		}
	}
}

// scripts makes random scripts of many lengths.
func scripts(seed uint64, play func([]byte)) {
	r := rand.New(rand.NewPCG(13, seed))
	for i := range 1500 {
		n := 20 + r.IntN(1500)
		if i%150 == 0 {
			n = 30000
		}
		l := make([]byte, n)
		for j := range l {
			l[j] = byte(r.Uint32())
		}
		play(l)
	}
}

func TestScriptsOfOneTable(t *testing.T) {
	scripts(2, func(l []byte) { tableBy(t, l) })
}

func TestScriptsOfManyTables(t *testing.T) {
	scripts(3, func(l []byte) { crowdBy(t, l) })
}

func FuzzTable(f *testing.F) {
	f.Add([]byte{1, 2, 3, 0, 3, 4, 5, 6, 1, 4, 5, 6, 7, 120, 5, 200, 1, 2, 3, 4, 5, 6})
	f.Fuzz(tableBy)
}

func FuzzCrowd(f *testing.F) {
	f.Add([]byte{6, 0, 0, 0, 0, 0, 0, 0, 0, 1, 1, 1, 1, 2, 2, 200, 3, 4, 5, 6, 7, 8})
	f.Fuzz(crowdBy)
}

// All short rows of calls of Learn, of few peers, to a table; all positions asked behind each.
func TestAllRowsOfLearning(t *testing.T) {
	self, pred, succ := peer(1, 10), peer(2, 8), peer(3, 12)
	lists := [][]api.Peer{nil, {peer(4, 14)}, {peer(4, 14), peer(5, 15)}, {peer(5, 15), peer(6, 16), peer(7, 17)}, {self, peer(4, 13), peer(7, 2), succ}, {peer(-1, 14)}}
	var row func(calls []int)
	row = func(calls []int) {
		w := twinsOf(t, self, pred, succ)
		for _, c := range calls {
			w.learn(c%5, lists[c/5]...)
		}
		for lo := range uint64(20) {
			w.asks(at(lo))
		}
		if len(calls) < 3 {
			for c := range 5 * len(lists) {
				row(append(calls[:len(calls):len(calls)], c))
			}
		}
	}
	row(nil)
}

// The same calls have the same answers, at each table (P2).
func TestAnswersHangOnTheCallsAlone(t *testing.T) {
	x, y := knowing(t, mostFingers), knowing(t, 2)
	y.Handle(from(7, at(10), 5, 1))
	y.Learn(7, nil)
	learns(t, y, 2, told...)
	learns(t, y, 1)
	learns(t, y, 1, known[1:]...)
	learns(t, y, 2, known[1:]...)
	learns(t, y, 3, known[1:]...)
	for lo := range uint64(130) {
		a, is, e := x.Step(at(lo))
		if b, was, f := y.Step(at(lo)); a != b || is != was || e != f {
			t.Errorf("Step(%d): %v and %v", lo, a, b)
		}
		m, e := x.Handle(from(7, at(lo), lo, int(lo)))
		if n, f := y.Handle(from(7, at(lo), lo, int(lo))); !sameMsg(m, n) || e != f {
			t.Errorf("Handle of %d: %v and %v", lo, m, n)
		}
	}
}
