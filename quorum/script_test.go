package quorum_test

import (
	"math/rand/v2"
	"strings"
	"testing"

	"tontine/api"
)

// script is bytes that are read as calls; behind their end are zeros.
type script struct {
	rest []byte
}

func (s *script) take() int {
	if len(s.rest) == 0 {
		return 0
	}
	b := s.rest[0]
	s.rest = s.rest[1:]
	return int(b)
}

// replica is most often one of the four.
func (s *script) replica() int {
	if b := s.take(); b < 235 {
		return b % 4
	}
	return wrongReplicas[s.take()%len(wrongReplicas)]
}

// near is most often that number, else one that differs by little or is at an edge.
func (s *script) near(n uint32) uint32 {
	b := s.take()
	switch {
	case b < 190:
		return n
	case b < 230:
		return n + uint32(b%5) - 2
	case b < 235:
		return 0
	}
	return edges[s.take()%len(edges)]
}

func (s *script) data() []api.Entry {
	var l []api.Entry
	b := s.take()
	for range b % 4 {
		l = append(l, api.Entry{Key: string(rune('a' + s.take()%26)), Value: strings.Repeat("v", s.take()%3)})
	}
	return l
}

func (s *script) answer(round, ver uint32) api.Answer {
	return api.Answer{Round: s.near(round), Inc: s.near(1 + uint32(s.take()%3)), Ver: s.near(ver), Data: s.data()}
}

// readsBy plays a script to readers and to their models: behind some calls comes another one.
func readsBy(t *testing.T, bytes []byte) {
	s := &script{bytes}
	for len(s.rest) > 0 {
		round := max(s.near(7), 1)
		x := twinsOf(t, s.take()%(lastBucket+1), round)
		ver := s.near(0)
		for range 3 + s.take()%8 {
			x.add(s.replica(), s.answer(round, ver))
		}
	}
}

func TestScripts(t *testing.T) {
	r := rand.New(rand.NewPCG(16, 1))
	for range 1500 {
		l := make([]byte, 20+r.IntN(1200))
		for j := range l {
			l[j] = byte(r.Uint32())
		}
		readsBy(t, l)
	}
}

func FuzzReader(f *testing.F) {
	f.Add([]byte{0, 24, 0, 3, 0, 0, 0, 0, 0, 1, 97, 1, 1, 0, 0, 0, 231, 0, 2, 0, 0, 0, 192, 0, 3, 0, 0, 0, 0, 0})
	f.Add([]byte{240, 17, 63, 240, 17, 8, 3, 0, 2, 0, 0, 0, 240, 9, 0, 0, 0, 0, 0, 3})
	f.Fuzz(readsBy)
}

// every calls f with each list of so many numbers below that bound.
func every(length, below int, f func([]int)) {
	l := make([]int, length)
	for {
		f(l)
		at := 0
		for at < length && l[at] == below-1 {
			l[at] = 0
			at++
		}
		if at == length {
			return
		}
		l[at]++
	}
}

// All short rows of answers, of few versions.
func TestAllRowsOfAnswers(t *testing.T) {
	every(4, 4*4, func(l []int) {
		x := twinsOf(t, 24, 7)
		for at, k := range l {
			x.add(k%4, told(uint32(at+1), uint32(k/4), string(rune('a'+at))))
		}
	})
}

// All answers of few versions of the four replicas, with an answer more behind each of them that must be refused.
func TestAllVersionsBesideWrongAnswers(t *testing.T) {
	wrong := []api.Answer{told(0, 9, "x"), {Round: 8, Inc: 1, Ver: 9}, {Round: 6, Inc: 9}, {}}
	for _, order := range orders() {
		every(4, 3, func(l []int) {
			for _, bad := range wrong {
				x := twinsOf(t, 24, 7)
				for _, replica := range order {
					x.add(replica, bad)
					x.add(replica, told(uint32(replica+1), uint32(l[replica]), string(rune('a'+replica))))
					x.add(replica, told(5, 9, "twice"))
				}
			}
		})
	}
}
