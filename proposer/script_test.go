package proposer_test

import (
	"math"
	"math/rand/v2"
	"testing"

	"tontine/api"
)

// script is bytes that are read as calls; behind their end are zeros.
type script struct {
	rest []byte
}

func (s *script) take() int {
	if len(s.rest) == 0 {
		return 0
	}
	b := s.rest[0]
	s.rest = s.rest[1:]
	return int(b)
}

// from is most often one of the acceptors.
func (s *script) from(acceptors int) int {
	b := s.take()
	switch {
	case b < 220:
		return b % acceptors
	case b < 235:
		return acceptors
	case b < 245:
		return -1
	}
	return wrongNumbers[s.take()%len(wrongNumbers)]
}

// near is a ballot that is most often the one given, or differs from it by little.
func (s *script) near(top api.Ballot) api.Ballot {
	b := s.take()
	switch {
	case b < 150:
		return top
	case b < 190:
		return ballot(top.Round+uint32(b%5)-2, top.Node)
	case b < 220:
		return ballot(top.Round, top.Node+uint8(b%5)-2)
	case b < 245:
		return ballot(uint32(b%4), uint8(b%3))
	}
	return ballots[s.take()%len(ballots)]
}

func (s *script) value() string {
	b := s.take()
	if b < 245 {
		return string(rune('a' + b%3))
	}
	// The longest one is left to other tests.
	return values[b%(len(values)-1)]
}

// accepted is often nothing, else something in one of few ballots.
func (s *script) accepted() api.Accepted {
	b := s.take()
	switch {
	case b < 90:
		return nothing
	case b < 100:
		return api.Accepted{B: ballot(9, 9), Value: "odd"}
	case b < 240:
		return accepted(uint32(b%3), uint8(b/3%3), s.value())
	}
	return api.Accepted{Is: true, B: ballots[s.take()%len(ballots)], Value: s.value()}
}

// round is most often little more than that of the last ballot.
func (s *script) round(top uint32) uint32 {
	b := s.take()
	switch {
	case b < 170:
		return top + 1 + uint32(b%2)
	case b < 200:
		return top
	case b < 215:
		return top - 1
	case b < 225:
		return 0
	case b < 250:
		return uint32(b % 8)
	}
	return []uint32{1 << 8, 1 << 16, 1<<31 - 1, 1 << 31, math.MaxUint32 - 1, math.MaxUint32}[s.take()%6]
}

// bidsBy plays a script to a proposer and to its model.
func bidsBy(t *testing.T, bytes []byte) {
	s := &script{bytes}
	x := bidderOf(t, s.take(), 1+s.take()%mostAcceptors)
	for len(s.rest) > 0 {
		top, _ := x.m.ballot()
		if s.take() < 30 {
			x.begin(s.round(top.Round), s.value())
		} else {
			x.promise(s.from(x.m.acceptors), s.near(top), s.accepted())
		}
	}
}

// hearsBy plays a script to learners and to their models: behind a choice and some messages more comes another one.
func hearsBy(t *testing.T, bytes []byte) {
	s := &script{bytes}
	for len(s.rest) > 0 {
		x := hearerOf(t, 1+s.take()%mostAcceptors)
		top := ballot(uint32(s.take()%3), uint8(s.take()%3))
		for more := 20; more > 0 && len(s.rest) > 0; {
			b := s.near(top)
			if s.take() < 20 {
				top = b
			}
			x.accepted(s.from(x.m.acceptors), b, s.value())
			if x.m.chosen != nil {
				more--
			}
		}
	}
}

// scripts makes random scripts of many lengths.
func scripts(seed uint64, play func([]byte)) {
	r := rand.New(rand.NewPCG(11, seed))
	for i := range 1500 {
		n := 20 + r.IntN(1200)
		if i%150 == 0 {
			n = 20000
		}
		l := make([]byte, n)
		for j := range l {
			l[j] = byte(r.Uint32())
		}
		play(l)
	}
}

func TestScriptsOfProposers(t *testing.T) {
	scripts(1, func(l []byte) { bidsBy(t, l) })
}

func TestScriptsOfLearners(t *testing.T) {
	scripts(2, func(l []byte) { hearsBy(t, l) })
}

func FuzzProposer(f *testing.F) {
	f.Add([]byte{7, 2, 0, 0, 0, 200, 0, 0, 0, 200, 0, 0, 0, 200, 2, 0, 120, 1})
	f.Add([]byte{255, 8, 0, 255, 5, 0, 200, 3, 0, 245, 2, 1})
	f.Fuzz(bidsBy)
}

func FuzzLearner(f *testing.F) {
	f.Add([]byte{2, 1, 2, 0, 200, 0, 0, 0, 200, 1, 0, 0, 200, 2, 0})
	f.Add([]byte{8, 0, 0, 190, 0, 3, 250, 0, 200, 4, 1})
	f.Fuzz(hearsBy)
}

// every calls f with each list of so many numbers below that bound.
func every(length, below int, f func([]int)) {
	l := make([]int, length)
	for {
		f(l)
		at := 0
		for at < length && l[at] == below-1 {
			l[at] = 0
			at++
		}
		if at == length {
			return
		}
		l[at]++
	}
}

// All short rows of promises, of few kinds, behind a first Begin.
func TestAllRowsOfPromises(t *testing.T) {
	was := []api.Accepted{nothing, accepted(0, 0, "x"), accepted(1, 0, "y"), accepted(0, 1, "z"), accepted(1, 0, "w")}
	for n := 1; n <= 5; n++ {
		length, froms := 3, n
		if n <= 3 {
			length = 4
		}
		every(length, froms*len(was), func(l []int) {
			x := bidderOf(t, 2, n)
			x.begin(3, "own")
			for _, k := range l {
				x.promise(k%froms, ballot(3, 2), was[k/froms])
			}
		})
	}
}

// All short rows of messages to a learner, of few kinds.
func TestAllRowsOfMessages(t *testing.T) {
	said := []api.Accepted{accepted(0, 0, ""), accepted(0, 0, "v"), accepted(0, 1, "v"), accepted(1, 0, "v")}
	for n := 1; n <= 5; n++ {
		length := 4
		if n > 3 {
			length = 3
		}
		if n == 3 {
			length = 5
		}
		every(length, n*len(said), func(l []int) {
			x := hearerOf(t, n)
			for _, k := range l {
				x.accepted(k%n, said[k/n].B, said[k/n].Value)
			}
		})
	}
}
