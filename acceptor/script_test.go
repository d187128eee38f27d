package acceptor_test

import (
	"math/rand/v2"
	"testing"

	"tontine/api"
)

// script is bytes that are read as calls; behind their end are zeros.
type script struct {
	rest []byte
}

func (s *script) take() int {
	if len(s.rest) == 0 {
		return 0
	}
	b := s.rest[0]
	s.rest = s.rest[1:]
	return int(b)
}

// inst is most often one of a few, or one that is known.
func (s *script) inst(p *pair) api.Inst {
	b := s.take()
	switch {
	case b < 80:
		return insts[b%5]
	case b < 200 && len(p.m.list) > 0:
		return p.m.list[s.take()%len(p.m.list)].name
	case b < 230:
		return insts[b%len(insts)]
	}
	return nth(s.take())
}

// ballot is most often one about the one that was promised, by its node, by its round or by both.
func (s *script) ballot(p *pair, i api.Inst) api.Ballot {
	top, _, _ := p.m.get(i)
	b := s.take()
	switch {
	case b < 40:
		return top
	case b < 100:
		return ballot(top.Round, top.Node+uint8(b%7)-3)
	case b < 150:
		return ballot(top.Round+uint32(b%5)-2, top.Node)
	case b < 200:
		return ballot(top.Round+uint32(b%3)-1, uint8(s.take()))
	case b < 235:
		return ballot(uint32(b%8), uint8(b%4))
	case b < 245:
		return ballot(top.Round+uint32(s.take())<<(b%24), uint8(b))
	}
	return ballots[s.take()%len(ballots)]
}

func (s *script) value() string {
	b := s.take()
	if b < 240 {
		return string(rune('a' + b%20))
	}
	// The longest one is left to other tests.
	return values[b%(len(values)-1)]
}

// call plays one call of a script.
func (s *script) call(p *pair) {
	switch s.take() % 16 {
	case 0, 1, 2, 3, 4, 5:
		i := s.inst(p)
		p.prepare(i, s.ballot(p, i))
	case 6, 7, 8, 9, 10, 11, 12:
		i := s.inst(p)
		p.accept(i, s.ballot(p, i), s.value())
	case 13:
		p.forget(s.inst(p))
	case 14:
		p.get(s.inst(p))
	default:
		p.looks()
	}
}

// held plays a script to a table and to its model.
func held(t *testing.T, bytes []byte) {
	s := &script{bytes}
	p := pairOf(t, []int{1, 2, 3, 5, 8, 20, 100, mostInsts}[s.take()%8])
	for len(s.rest) > 0 {
		s.call(p)
		p.looks()
	}
	// In the end, all that is known is forgotten.
	for len(p.m.list) > 0 {
		p.forget(p.m.list[0].name)
	}
	p.looks()
}

func TestScripts(t *testing.T) {
	r := rand.New(rand.NewPCG(10, 4))
	for i := range 400 {
		n := 20 + r.IntN(1500)
		if i%80 == 0 {
			n = 12000
		}
		l := make([]byte, n)
		for j := range l {
			l[j] = byte(r.Uint32())
		}
		held(t, l)
	}
}

func FuzzScript(f *testing.F) {
	f.Add([]byte{1, 0, 0, 205, 6, 0, 50, 3, 6, 0, 50, 4, 13, 0, 1, 0, 101, 15})
	f.Add([]byte{0, 6, 0, 250, 22, 245, 0, 1, 250, 1, 6, 220, 250, 22, 1, 13, 0, 6, 220, 0, 1})
	f.Fuzz(held)
}
