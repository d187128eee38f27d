package faildet_test

import (
	"math/rand/v2"
	"testing"
)

// script is bytes that are read as calls; behind their end are zeros.
type script struct {
	rest []byte
	now  int64
}

func (s *script) take() int {
	if len(s.rest) == 0 {
		return 0
	}
	b := s.rest[0]
	s.rest = s.rest[1:]
	return int(b)
}

// time goes on most often, stands still or goes back at times, and now and then is none.
func (s *script) time(p *pair) int64 {
	b := s.take()
	switch {
	case b < 110:
		s.now += int64(b % 30)
	case b < 130:
		return s.now
	case b < 145:
		return max(0, s.now-int64(b%40)*7)
	case b < 155:
		return wrongTimes[b%len(wrongTimes)]
	case b < 160:
		return times[b%len(times)]
	case b < 175:
		s.now += int64(s.take()) << (b % 15)
	case b < 177:
		s.now += int64(s.take()) << 30
	default:
		s.now = s.about(p, b)
	}
	// Behind the last time, the next ones go back to the start, so that a script isn't stuck at the end.
	if s.now > lastTime {
		s.now = 0
		return lastTime
	}
	return s.now
}

// about is when a node begins to be suspected, or the tick before, or the one behind.
func (s *script) about(p *pair, b int) int64 {
	peers := p.m.peers()
	if len(peers) == 0 {
		return s.now
	}
	last, wait, _ := p.m.nodes[peers[s.take()%len(peers)]].learned(p.m.guess)
	return max(0, int64(last+wait)+int64(b%3))
}

// node is most often one of a few, and now and then none.
func (s *script) node() int {
	b := s.take()
	switch {
	case b < 150:
		return b % 5
	case b < 225:
		return b % 16
	case b < 245:
		return peers[b%len(peers)]
	}
	return wrongPeers[b%len(wrongPeers)]
}

// watchedNode is most often one that is watched.
func (s *script) watchedNode(p *pair) int {
	if list := p.m.peers(); len(list) > 0 && s.take() < 230 {
		return list[s.take()%len(list)]
	}
	return s.node()
}

// call plays one call of a script.
func (s *script) call(p *pair) {
	switch s.take() % 16 {
	case 0, 1, 2:
		p.watch(s.node(), s.time(p))
	case 3:
		if s.take() < 128 {
			p.leave(s.watchedNode(p))
		}
	case 4, 5, 6, 7, 8, 9:
		p.beat(s.watchedNode(p), s.time(p))
	case 10, 11, 12:
		p.changes(s.time(p))
	case 13:
		p.wait(s.node())
	default:
		p.suspects(s.time(p))
	}
}

// held plays a script to a detector and to its model.
func held(t *testing.T, bytes []byte) {
	s := &script{rest: bytes}
	p := pairOf(t, guesses[s.take()%len(guesses)])
	for len(s.rest) > 0 {
		s.call(p)
		p.looks(s.now)
	}
	p.changes(s.now)
	p.changes(lastTime)
	p.changes(0)
}

func TestScripts(t *testing.T) {
	r := rand.New(rand.NewPCG(9, 2))
	for i := range 300 {
		n := 20 + r.IntN(1500)
		if i%60 == 0 {
			n = 12000
		}
		l := make([]byte, n)
		for j := range l {
			l[j] = byte(r.Uint32())
		}
		held(t, l)
	}
}

func FuzzScript(f *testing.F) {
	f.Add([]byte{5, 0, 3, 20, 4, 0, 0, 177, 0, 10, 20, 10, 200, 0, 3, 0, 0, 0, 0, 3, 5, 10, 90})
	f.Add([]byte{0, 1, 0, 0, 1, 1, 0, 1, 2, 0, 14, 160, 12, 4, 0, 1, 250, 1, 4, 0, 1, 176, 255, 11, 255})
	f.Fuzz(held)
}
