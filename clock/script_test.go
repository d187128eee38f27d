package clock_test

import (
	"math"
	"math/rand/v2"
	"testing"
)

// script is bytes that are read as calls; behind their end are zeros.
type script struct {
	rest []byte
}

func (s *script) take() int64 {
	if len(s.rest) == 0 {
		return 0
	}
	b := s.rest[0]
	s.rest = s.rest[1:]
	return int64(b)
}

// number is a number about a base: up to 15 above it, up to 128 about it or any small one; or one of the ends.
func (s *script) number(base int64) int64 {
	b := s.take()
	switch b % 8 {
	case 0:
		return base + b/16
	case 1, 2:
		return base + s.take() - 128
	case 3:
		return s.take()
	case 4:
		return []int64{0, 1, lastTime - 1, lastTime, lastTime + 1, math.MaxInt64, math.MinInt64, -1}[s.take()%8]
	case 5:
		return s.take()<<32 | s.take()
	}
	return base + b/8
}

func (s *script) rate() int {
	b := s.take()
	if b%8 > 0 {
		return 900 + int(b)%201
	}
	return 850 + int(s.take())
}

// held plays a script to a clock and to its model.
func held(t *testing.T, bytes []byte) {
	s := &script{bytes}
	at := []int64{0, 5, 1 << 20, lastTime - 300}[s.take()%4]
	p := pairOf(t, 900+int(s.take())%201, at)
	few := s.take()%2 == 0
	for len(s.rest) > 0 {
		call := s.take()
		id := uint64(s.take())
		if few {
			id %= 7
		}
		switch call % 16 {
		case 0, 1:
			p.pass(s.number(0))
		case 2:
			p.turn(s.rate())
		case 3:
			p.stop(id)
		case 4:
			p.due()
		default:
			p.set(id+uint64(call)/200*200, s.number(p.m.now()))
		}
		p.looks()
	}
	// All that waits comes in the end, in its order.
	p.pass(room(p.m.rate, p.m.thousandths))
	p.due()
	p.looks()
}

func TestScripts(t *testing.T) {
	r := rand.New(rand.NewPCG(6, 2))
	for range 400 {
		l := make([]byte, 20+r.IntN(3000))
		for i := range l {
			l[i] = byte(r.Uint32())
		}
		held(t, l)
	}
}

func FuzzScript(f *testing.F) {
	f.Add([]byte{0, 100, 0, 15, 7, 0, 15, 8, 0, 15, 7, 0, 4, 0})
	f.Add([]byte{3, 200, 1, 0, 0, 4, 5, 255, 9, 8, 1, 4, 4, 3, 3, 9})
	f.Fuzz(held)
}
