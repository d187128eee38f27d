package inbox_test

import (
	"math"
	"math/rand/v2"
	"testing"
)

// script is bytes that are read as calls; behind their end are zeros.
type script struct {
	rest []byte
	now  int64
}

func (s *script) take() int {
	if len(s.rest) == 0 {
		return 0
	}
	b := s.rest[0]
	s.rest = s.rest[1:]
	return int(b)
}

// time goes on most often, stands still or goes back at times, and now and then is none.
func (s *script) time(p *pair) int64 {
	b := s.take()
	switch {
	case b < 120:
		s.now += int64(b % 30)
	case b < 150:
		return s.now
	case b < 170:
		return max(0, s.now-int64(b%40))
	case b < 185:
		return wrongTimes[b%len(wrongTimes)]
	case b < 190:
		return []int64{0, lastTime - 1, lastTime}[b%3]
	case b < 200:
		s.now += int64(s.take()) << (b % 24)
	default:
		// About when the next one is due.
		if next, is := p.c.Next(); is {
			s.now = max(0, next+int64(b%3)-1)
		}
	}
	// Behind the last time, the next ones go back to the start, so that a script isn't stuck where nothing can be due.
	if s.now > lastTime {
		s.now = 0
		return lastTime
	}
	return s.now
}

// number is most often that of a call that is open or was opened a little while ago.
func (s *script) number(p *pair) uint64 {
	b := s.take()
	made := uint64(len(p.m.records))
	switch {
	case b < 16:
		return []uint64{0, 1, math.MaxUint64, 1 << 32}[b%4] + uint64(b)/4*made
	case b < 64:
		return made + 2 - min(made+2, uint64(b)%24)
	}
	if list := p.m.list(); len(list) > 0 {
		return list[(b+s.take())%len(list)].ID
	}
	return uint64(b) % 8
}

func (s *script) node() int {
	b := s.take()
	if b < 240 {
		return b % 6
	}
	return nodes[b%len(nodes)]
}

// call plays one call of a script.
func (s *script) call(p *pair, q *queue) {
	switch s.take() % 16 {
	case 0, 1, 2, 3:
		p.open(s.node(), s.time(p))
	case 4, 5:
		p.close(s.number(p))
	case 6, 7, 8, 9:
		p.due(s.time(p))
	case 10:
		p.looks()
	case 11, 12, 13:
		q.put(packetOf(uint64(s.take()), s.take()%40))
	default:
		q.take()
	}
}

// held plays a script to an inbox and to calls, and to their models.
func held(t *testing.T, bytes []byte) {
	s := &script{rest: bytes}
	q := queueOf(t, []int{1, 2, 3, 5, 8, 20, 60, mostRoom}[s.take()%8])
	waits := [][2]int64{{1, 1}, {1, 8}, {2, 9}, {10, 35}, {10, 10}, {7, 1000}, {1, longest}, {longest, longest}}[s.take()%8]
	p := pairOf(t, []int{1, 2, 3, 5, 8, 20, 60, mostRoom}[s.take()%8], waits[0], waits[1], 1+s.take()%mostTries)
	for len(s.rest) > 0 {
		s.call(p, q)
		p.looks()
	}
	p.finish()
	for q.taken < len(q.all) {
		q.take()
	}
	q.take()
}

func TestScripts(t *testing.T) {
	r := rand.New(rand.NewPCG(8, 2))
	for range 500 {
		l := make([]byte, 20+r.IntN(1500))
		for i := range l {
			l[i] = byte(r.Uint32())
		}
		held(t, l)
	}
}

func FuzzScript(f *testing.F) {
	f.Add([]byte{1, 3, 1, 1, 0, 7, 100, 6, 109, 6, 1, 6, 20, 4, 64, 0})
	f.Add([]byte{0, 0, 255, 254, 253, 5, 0, 5, 15, 9, 20, 15, 255})
	f.Fuzz(held)
}

// Many calls at once, by turns of a clock, as a node makes them: some are answered, the others given up.
func TestCallsOfANode(t *testing.T) {
	r := rand.New(rand.NewPCG(8, 3))
	for tries := 1; tries <= mostTries; tries++ {
		p := pairOf(t, mostRoom, 3, 50, tries)
		for now := range int64(1500) {
			for range r.IntN(3) {
				p.open(r.IntN(12), now)
			}
			if list := p.m.list(); r.IntN(3) == 0 && len(list) > 0 {
				p.close(list[r.IntN(len(list))].ID)
			}
			p.due(now)
		}
		p.finish()
	}
}
