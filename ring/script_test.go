package ring_test

import (
	"math/rand/v2"
	"testing"

	"tontine/api"
)

// script is bytes that are read as calls; behind their end are zeros.
type script struct {
	rest []byte
}

func (s *script) take() int {
	if len(s.rest) == 0 {
		return 0
	}
	b := s.rest[0]
	s.rest = s.rest[1:]
	return int(b)
}

// node is most often one of few.
func (s *script) node() int {
	b := s.take()
	if b < 250 {
		return b % 8
	}
	return []int{-1, 256, 255, 254}[b%4]
}

// pos is most often one of few on a small ring, so that many are equal or adjacent.
func (s *script) pos() api.Pos {
	b := s.take()
	if b < 220 {
		return at(uint64(b % 12))
	}
	return positions[b%len(positions)]
}

// peer stands most often where a peer with its number always stands.
func (s *script) peer() api.Peer {
	b := s.take()
	if b < 200 {
		return home(b % 8)
	}
	return api.Peer{Node: s.node(), Pos: s.pos()}
}

// home is a peer at its usual position: the numbers are not in the order of the positions.
func home(node int) api.Peer { return peer(node, uint64(node*5%8+1)) }

// from is most often one whose messages count: the one that was asked, or the first succ.
func (s *script) from(k *knowledge) int {
	b := s.take()
	switch {
	case b < 120 && k.asked != nil:
		return *k.asked
	case b < 120:
		return k.succs[0].Node
	case b < 150 && k.pred != nil:
		return k.pred.Node
	case b < 180:
		return k.succs[b%len(k.succs)].Node
	}
	return s.node()
}

// msg is most often one that is taken.
func (s *script) msg(k *knowledge) api.Msg {
	m := api.Msg{Kind: ringKinds[s.take()%4], From: s.from(k), To: k.self.Node}
	n := 0
	switch m.Kind {
	case api.MsgRingTell, api.MsgRingLeave:
		n = leastTold + s.take()%(mostTold-leastTold+1)
	case api.MsgRingNotify:
		n = 1
	}
	odd := s.take()
	switch odd {
	case 255:
		n++
	case 254:
		n = max(0, n-1)
	case 253:
		m.To++
	case 252:
		m.Kind = api.MsgBeat
	}
	for i := range n {
		p := s.peer()
		if i == 0 && odd != 251 {
			p.Node = m.From
			if m.From >= 0 && m.From < 8 && odd > 30 {
				p = home(m.From)
			}
		}
		m.Peers = append(m.Peers, p)
	}
	return m
}

// ringBy plays a script to a node and to its model.
func ringBy(t *testing.T, bytes []byte) {
	s := &script{bytes}
	self := home(s.take() % 8)
	if self.Node == 7 {
		self = api.Peer{Node: s.node() & 255, Pos: s.pos()}
	}
	x := twinsOf(t, self)
	for len(s.rest) > 0 {
		switch b := s.take(); {
		case b < 200:
			x.handle(s.msg(x.k))
		case b < 230:
			x.join(s.node())
		case b < 245:
			x.suspect(s.from(x.k))
		case b < 250:
			x.suspect(s.node())
		default:
			x.leave()
		}
	}
}

// crowd is nodes with their models, and the messages between them that have not arrived.
type crowd struct {
	nodes []*twins
	bag   []api.Msg
}

// crowdBy plays a script to nodes that send their messages to each other: any of these arrives next, or twice, or never.
func crowdBy(t *testing.T, bytes []byte) {
	s := &script{bytes}
	var c crowd
	n := 2 + s.take()%7
	for node := range n {
		c.nodes = append(c.nodes, twinsOf(t, home(node)))
	}
	for len(s.rest) > 0 {
		x := c.nodes[s.take()%n]
		switch b := s.take(); {
		case b < 160 && len(c.bag) > 0:
			c.arrive(s.take(), b)
		case b < 220:
			c.bag = append(c.bag, x.looks()...)
		case b < 240:
			via := s.take() % n
			x.join(via)
			c.bag = append(c.bag, x.looks()...)
		case b < 244:
			x.suspect(s.take() % n)
		case b < 247:
			c.bag = append(c.bag, x.leave()...)
		}
		if len(c.bag) > 60 {
			c.bag = c.bag[20:]
		}
	}
}

// arrive brings one of the messages; now and then it stays under way, or gets lost.
func (c *crowd) arrive(which, how int) {
	i := which % len(c.bag)
	m := c.bag[i]
	if how >= 10 {
		c.bag[i] = c.bag[len(c.bag)-1]
		c.bag = c.bag[:len(c.bag)-1]
	}
	if how < 150 {
		c.bag = append(c.bag, c.nodes[m.To].handle(m)...)
	}
}

// scripts makes random scripts of many lengths.
func scripts(seed uint64, play func([]byte)) {
	r := rand.New(rand.NewPCG(12, seed))
	for i := range 1500 {
		n := 20 + r.IntN(1500)
		if i%150 == 0 {
			n = 30000
		}
		l := make([]byte, n)
		for j := range l {
			l[j] = byte(r.Uint32())
		}
		play(l)
	}
}

func TestScriptsOfOneNode(t *testing.T) {
	scripts(1, func(l []byte) { ringBy(t, l) })
}

func TestScriptsOfManyNodes(t *testing.T) {
	scripts(2, func(l []byte) { crowdBy(t, l) })
}

func FuzzRing(f *testing.F) {
	f.Add([]byte{0, 210, 1, 0, 1, 0, 1, 100, 1, 2, 3})
	f.Add([]byte{2, 0, 2, 1, 100, 3, 0, 1, 0, 0, 100, 4, 5, 6, 255, 0, 3, 0, 0, 100, 1, 2, 3})
	f.Fuzz(ringBy)
}

func FuzzCrowd(f *testing.F) {
	f.Add([]byte{3, 1, 230, 0, 0, 100, 0, 0, 100, 0, 0, 100, 0, 1, 200, 0, 100, 0, 1, 250})
	f.Fuzz(crowdBy)
}

// All short rows of messages, of few kinds, to a node in each of some states.
func TestAllRowsOfMessages(t *testing.T) {
	self := peer(1, 3)
	a, b, c := peer(2, 5), peer(3, 1), peer(4, 4)
	messages := []api.Msg{
		ask(a, 1), notify(a, 1), notify(b, 1), notify(c, 1),
		tell(2, 1, a, a, a), tell(2, 1, a, self, b, self), tell(2, 1, a, c, b, c), tell(3, 1, b, b, self, a), tell(3, 1, b, c, c, a, b), tell(4, 1, c, self, a, b, self, c),
		leave(2, 1, a, self, b, self), leave(3, 1, b, c, self, a), leave(4, 1, c, b, b, self, a, c), leave(2, 1, a, a, a),
	}
	every(4, len(messages)+4, func(l []int) {
		x := twinsOf(t, self)
		for _, i := range l {
			switch {
			case i < 2:
				x.join(2 + i)
			case i < 4:
				x.suspect(i)
			default:
				x.handle(messages[i-4])
			}
		}
	})
}
