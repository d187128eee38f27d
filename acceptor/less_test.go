package acceptor_test

import (
	"math/rand/v2"
	"slices"
	"testing"

	"tontine/acceptor"
	"tontine/api"
)

// rank is the place of a ballot in the order of all of them.
func rank(b api.Ballot) uint64 { return uint64(b.Round)*256 + uint64(b.Node) }

// orders asks for both orders of two ballots.
func orders(t *testing.T, a, b api.Ballot, ab, ba bool) {
	t.Helper()
	if got := acceptor.Less(a, b); got != ab {
		t.Errorf("Less(%v, %v): %t", a, b, got)
	}
	if got := acceptor.Less(b, a); got != ba {
		t.Errorf("Less(%v, %v): %t", b, a, got)
	}
}

func TestLess(t *testing.T) {
	orders(t, ballot(2, 1), ballot(2, 1), false, false)
	orders(t, ballot(1, 1), ballot(2, 1), true, false)
	orders(t, ballot(2, 1), ballot(2, 2), true, false)
	orders(t, ballot(1, 2), ballot(2, 1), true, false)
	orders(t, ballot(1, 1), ballot(2, 2), true, false)
	orders(t, zero, zero, false, false)
	orders(t, zero, ballot(0, 1), true, false)
	orders(t, zero, ballot(1, 0), true, false)
	orders(t, ballot(0, 255), ballot(1, 0), true, false)
	orders(t, zero, last, true, false)
	orders(t, last, last, false, false)
	// Rounds and nodes are numbers without a sign.
	orders(t, ballot(1<<31-1, 0), ballot(1<<31, 0), true, false)
	orders(t, ballot(0, 0), ballot(1<<31, 0), true, false)
	orders(t, ballot(7, 127), ballot(7, 128), true, false)
	orders(t, ballot(7, 0), ballot(7, 255), true, false)
}

func TestLessOfAllInARow(t *testing.T) {
	for x, a := range ballots {
		for y, b := range ballots {
			orders(t, a, b, x < y, y < x)
		}
	}
	for a := range 256 {
		for b := range 256 {
			orders(t, ballot(5, uint8(a)), ballot(5, uint8(b)), a < b, b < a)
		}
	}
}

func TestLessIsAnOrder(t *testing.T) {
	r := rand.New(rand.NewPCG(10, 1))
	for range 100000 {
		shift := r.IntN(32)
		a := ballot(r.Uint32()>>shift, uint8(r.Uint32()))
		b := ballot(r.Uint32()>>shift, uint8(r.Uint32()))
		if r.IntN(4) == 0 {
			b.Round = a.Round
		}
		if r.IntN(4) == 0 {
			b.Node = a.Node
		}
		orders(t, a, b, rank(a) < rank(b), rank(a) > rank(b))
	}
}

// Ballots that are sorted by Less stand in the order of their rounds, and of their nodes in a round.
func TestLessSorts(t *testing.T) {
	r := rand.New(rand.NewPCG(10, 2))
	for range 200 {
		l := slices.Clone(ballots)
		r.Shuffle(len(l), func(i, j int) { l[i], l[j] = l[j], l[i] })
		slices.SortFunc(l, func(a, b api.Ballot) int {
			switch {
			case acceptor.Less(a, b):
				return -1
			case acceptor.Less(b, a):
				return 1
			}
			return 0
		})
		if !slices.Equal(l, ballots) {
			t.Fatalf("%v", l)
		}
	}
}
