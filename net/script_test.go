package net_test

import (
	"math"
	"math/rand/v2"
	"testing"

	"tontine/api"
)

// script is bytes that are read as calls; behind their end are zeros.
type script struct {
	rest []byte
}

func (s *script) take() int {
	if len(s.rest) == 0 {
		return 0
	}
	b := s.rest[0]
	s.rest = s.rest[1:]
	return int(b)
}

// number is most often that of a packet that is there or was there a little while ago.
func (s *script) number(p *pair) uint64 {
	b := s.take()
	switch {
	case b < 16:
		return []uint64{0, 1, math.MaxUint64, 1 << 32}[b%4] + uint64(b)/4*p.m.next
	case b < 64:
		return p.m.next - min(p.m.next, uint64(b)%24)
	case len(p.m.list) > 0:
		return p.m.list[(b+s.take())%len(p.m.list)].ID
	}
	return uint64(b) % 8
}

func (s *script) node() int {
	b := s.take()
	if b < 240 {
		return b % 6
	}
	return nodes[b%len(nodes)]
}

// bytes are few most often; sometimes they are about as many as there may be.
func (s *script) bytes() []byte {
	b := s.take()
	switch {
	case b < 16:
		return nil
	case b < 250:
		return bytesOf(b%9, byte(s.take()))
	}
	return bytesOf(mostBytes+2-b%5, byte(b))
}

// at is an offset into most packets, or about their ends.
func (s *script) at() int {
	b := s.take()
	if b < 200 {
		return b % 9
	}
	return []int{-1, 0, mostBytes - 1, mostBytes, math.MaxInt, math.MinInt}[b%6]
}

// call plays one call of a script.
func (s *script) call(p *pair) {
	switch s.take() % 16 {
	case 0, 1, 2, 3, 4:
		p.send(s.node(), s.node(), s.bytes())
	case 5, 6:
		p.twice(s.number(p))
	case 7, 8:
		p.take(s.number(p))
	case 9:
		p.lose(s.number(p))
	case 10, 11, 12:
		p.spoil(s.number(p), s.at(), byte(s.take()))
	case 13:
		p.forget(s.node())
	case 14:
		p.look(s.number(p))
	default:
		p.looks()
	}
}

// held plays a script to a net and to its model.
func held(t *testing.T, bytes []byte) {
	s := &script{bytes}
	p := pairOf(t, []int{1, 2, 3, 5, 8, 20, 60, mostPackets}[s.take()%8])
	for len(s.rest) > 0 {
		s.call(p)
		p.same("Count", p.n.Count(), len(p.m.list))
		p.same("Told", p.n.Told(), p.m.told)
	}
	p.looks()
	// In the end, all that is left is taken, the last one first.
	for i := len(p.m.list) - 1; i >= 0; i-- {
		p.take(p.m.list[i].ID)
	}
	p.looks()
	lists(t, p.n)
	told := p.n.Told()
	if told.Sent+told.Twice != told.Taken+told.Lost {
		t.Errorf("Told: %v", told)
	}
}

func TestScripts(t *testing.T) {
	r := rand.New(rand.NewPCG(7, 2))
	for range 600 {
		l := make([]byte, 20+r.IntN(2000))
		for i := range l {
			l[i] = byte(r.Uint32())
		}
		held(t, l)
	}
}

func FuzzScript(f *testing.F) {
	f.Add([]byte{1, 0, 1, 2, 20, 97, 5, 64, 0, 10, 64, 0, 0, 1, 7, 64, 0, 13, 2})
	f.Add([]byte{0, 0, 255, 254, 253, 5, 0, 5, 15, 9, 20, 15, 255})
	f.Fuzz(held)
}

// A packet, and so a double of it, is received as it was sent unless it was spoilt, whatever happens to others.
func TestPacketsAreReceivedAsTheyWereSent(t *testing.T) {
	r := rand.New(rand.NewPCG(7, 3))
	n := made(t, 200)
	// What each number must tell, and whether it was spoilt.
	sent := map[uint64]api.Packet{}
	spoilt := map[uint64]bool{}
	for i := range 20000 {
		to, data := r.IntN(9), bytesOf(1+r.IntN(30), byte(i))
		if id, e := n.Send(i, to, data); e == api.OK {
			sent[id] = api.Packet{ID: id, From: i, To: to, Data: data}
		}
		l := n.List()
		id := l[r.IntN(len(l))]
		switch r.IntN(4) {
		case 0:
			if double, e := n.Twice(id); e == api.OK {
				p := sent[id]
				p.ID = double
				sent[double] = p
				spoilt[double] = spoilt[id]
			}
		case 1:
			n.Spoil(id, 0, 1)
			spoilt[id] = true
		case 2:
			n.Lose(id)
		default:
			got, e := n.Take(id)
			if !spoilt[id] {
				tells(t, "Take", sent[id], api.OK)(got, e)
			} else if e != api.OK || len(got.Data) != len(sent[id].Data) {
				t.Errorf("Take(%d): %d bytes, %d", id, len(got.Data), e)
			}
			scribble(got.Data)
		}
	}
}
