package proposer_test

import (
	"math"
	"testing"

	"tontine/api"
)

// Before any Begin no promise is counted, also none of the zero ballot.
func TestPromiseBeforeAnyBegin(t *testing.T) {
	for n := 1; n <= mostAcceptors; n++ {
		p := made(t, 4, n)
		for range 2 {
			for from := -1; from <= n; from++ {
				for _, b := range append(ballots, ballot(0, 4), ballot(1, 4)) {
					counts(t, p, from, b, nothing)
					counts(t, p, from, b, accepted(1, 1, "x"))
				}
			}
		}
		isAt(t, p, zero, false)
		// None of them has been counted for the first ballot.
		fills(t, p, begins(t, p, 4, 1, "a"), n, "a")
	}
}

// fills brings promises of acceptors that have accepted nothing: all are counted, and the one that makes more than half decides.
func fills(t *testing.T, p mind, b api.Ballot, n int, want string) {
	t.Helper()
	for from := range n {
		v, ok := p.Promise(from, b, nothing)
		if decides := from == half(n)-1; ok != decides || decides && v != want || !decides && v != "" {
			t.Errorf("Promise(%d, %v, nothing) of %d acceptors: %q, %t, want %q", from, b, n, short(v), ok, short(want))
		}
	}
}

// mind is what takes promises.
type mind interface {
	Promise(from int, b api.Ballot, a api.Accepted) (string, bool)
}

// A promise of another ballot is not counted, and what comes with it is not taken into account.
func TestPromiseOfAnotherBallot(t *testing.T) {
	for _, mine := range []api.Ballot{ballot(1, 0), ballot(5, 6), ballot(256, 255), ballot(1<<31, 128), last} {
		for n := 1; n <= mostAcceptors; n++ {
			p := made(t, int(mine.Node), n)
			begins(t, p, int(mine.Node), mine.Round, "a")
			others := append([]api.Ballot{
				{Round: mine.Round + 1, Node: mine.Node}, {Round: mine.Round - 1, Node: mine.Node},
				{Round: mine.Round, Node: mine.Node + 1}, {Round: mine.Round, Node: mine.Node - 1},
				{Round: mine.Round + 256, Node: mine.Node}, {Round: mine.Round ^ 1<<31, Node: mine.Node}, {Round: mine.Round, Node: mine.Node ^ 128},
				{Round: uint32(mine.Node), Node: uint8(mine.Round)}, {Round: 0, Node: mine.Node},
			}, ballots...)
			for _, b := range others {
				for from := range n {
					if b != mine {
						counts(t, p, from, b, accepted(1, 1, "x"))
						counts(t, p, from, b, nothing)
					}
				}
			}
			isAt(t, p, mine, true)
			fills(t, p, mine, n, "a")
		}
	}
}

// The acceptors are 0 to one less than there are.
func TestPromiseFromNobody(t *testing.T) {
	for n := 1; n <= mostAcceptors; n++ {
		p := made(t, 6, n)
		b := begins(t, p, 6, 5, "a")
		wrong := append([]int{-1, -2, -n, n, n + 1, n + 2, 8 + n, 9 + n, 16, 32, 64, 256, 255, 1<<32 - 1, 1 << 32, math.MinInt, math.MaxInt}, wrongNumbers...)
		for _, from := range wrong {
			counts(t, p, from, b, accepted(4, 4, "x"))
			counts(t, p, from, b, nothing)
		}
		fills(t, p, b, n, "a")
		for _, from := range wrong {
			counts(t, p, from, b, accepted(4, 4, "x"))
		}
	}
}

// The first acceptor and the last one are counted as any other.
func TestPromiseFromTheFirstAndTheLast(t *testing.T) {
	for n := 1; n <= mostAcceptors; n++ {
		for from := range n {
			p := made(t, 6, n)
			b := begins(t, p, 6, 5, "a")
			for other := range half(n) - 1 {
				counts(t, p, (from+1+other)%n, b, nothing)
			}
			decides(t, p, from, b, accepted(1, 1, "x"), "x")
		}
	}
}

// The same promise twice is counted once; the second time, what comes with it is not taken into account.
func TestPromiseTwice(t *testing.T) {
	for n := 1; n <= mostAcceptors; n++ {
		for again := range n {
			p := made(t, 6, n)
			b := begins(t, p, 6, 5, "a")
			seen := 0
			for from := range n {
				at := (again + from) % n
				seen++
				if seen == half(n) {
					decides(t, p, at, b, nothing, "a")
				} else {
					counts(t, p, at, b, nothing)
				}
				for range n {
					counts(t, p, again, b, accepted(4, 4, "x"))
					counts(t, p, at, b, accepted(3, 3, "y"))
					counts(t, p, at, b, nothing)
				}
			}
		}
	}
}

// The value is told once: with the promise that makes more than half.
func TestPromiseThatDecides(t *testing.T) {
	for n := 1; n <= mostAcceptors; n++ {
		for _, v := range []string{"a", "", "b"} {
			p := made(t, 6, n)
			for round := uint32(1); round < 5; round++ {
				b := begins(t, p, 6, round, v)
				fills(t, p, b, n, v)
				for range 2 {
					for from := -1; from <= n; from++ {
						counts(t, p, from, b, nothing)
						counts(t, p, from, b, accepted(1, 1, "x"))
					}
				}
			}
		}
	}
}

// Whichever acceptors promise, and in whichever order, it is the number of them that decides.
func TestPromisesOfAnySet(t *testing.T) {
	for n := 1; n <= mostAcceptors; n++ {
		p := made(t, 6, n)
		for set := range 1 << n {
			b := begins(t, p, 6, uint32(set+1), "a")
			seen := 0
			for k := range n {
				from := k
				if set%3 == 0 {
					from = n - 1 - k
				}
				if set>>from&1 == 0 {
					continue
				}
				seen++
				if seen == half(n) {
					decides(t, p, from, b, nothing, "a")
				} else {
					counts(t, p, from, b, nothing)
				}
			}
		}
	}
}

// One that has accepted something binds the proposer, at whichever of the promises it stands; behind the one that decides it is too late.
func TestAcceptedInOne(t *testing.T) {
	for n := 1; n <= mostAcceptors; n++ {
		for with := range n {
			for _, was := range []api.Accepted{accepted(4, 4, "x"), accepted(0, 0, "x"), accepted(0, 9, ""), accepted(5, 5, "a"), accepted(5, 255, "y"), accepted(math.MaxUint32, 255, "z")} {
				p := made(t, 6, n)
				b := begins(t, p, 6, 5, "a")
				for from := range n {
					is, want := nothing, "a"
					if from == with {
						is = was
					}
					if from >= with {
						want = was.Value
					}
					if from == half(n)-1 {
						decides(t, p, from, b, is, want)
					} else {
						counts(t, p, from, b, is)
					}
				}
			}
		}
	}
}

// asked brings these promises, one behind the other, to proposers with the fewest and the most acceptors of which they are just more than half.
func asked(t *testing.T, want string, was ...api.Accepted) {
	t.Helper()
	for _, n := range []int{2*len(was) - 1, 2*len(was) - 2} {
		if n < 1 {
			continue
		}
		p := made(t, 200, n)
		b := begins(t, p, 200, 1<<31, "own")
		for i, a := range was[:len(was)-1] {
			counts(t, p, i, b, a)
		}
		decides(t, p, n-1, b, was[len(was)-1], want)
	}
}

// orders brings these promises in every order.
func orders(t *testing.T, want string, was ...api.Accepted) {
	t.Helper()
	var from func(at int)
	from = func(at int) {
		if at == len(was) {
			asked(t, want, was...)
			return
		}
		for i := at; i < len(was); i++ {
			was[at], was[i] = was[i], was[at]
			from(at + 1)
			was[at], was[i] = was[i], was[at]
		}
	}
	from(0)
}

func TestAcceptedInSeveral(t *testing.T) {
	orders(t, "own", nothing, nothing, nothing)
	orders(t, "x", nothing, nothing, accepted(3, 3, "x"))
	// By round, by node, and by a round that weighs more than a node.
	orders(t, "y", accepted(3, 3, "x"), accepted(4, 3, "y"))
	orders(t, "y", accepted(3, 3, "x"), accepted(3, 4, "y"))
	orders(t, "y", accepted(3, 4, "x"), accepted(4, 3, "y"))
	orders(t, "y", accepted(3, 255, "x"), accepted(4, 0, "y"))
	orders(t, "y", accepted(3, 3, "x"), accepted(4, 4, "y"))
	orders(t, "z", accepted(3, 3, "x"), nothing, accepted(3, 4, "y"), accepted(4, 0, "z"), nothing)
	orders(t, "z", accepted(1, 9, "v"), accepted(2, 8, "w"), accepted(3, 7, "x"), accepted(4, 6, "y"), accepted(5, 5, "z"))
	// Rounds and nodes have no sign.
	orders(t, "y", accepted(1<<31-1, 3, "x"), accepted(1<<31, 3, "y"))
	orders(t, "y", accepted(0, 3, "x"), accepted(math.MaxUint32, 3, "y"))
	orders(t, "y", accepted(7, 127, "x"), accepted(7, 128, "y"))
	orders(t, "y", accepted(7, 0, "x"), accepted(7, 255, "y"))
	// The values do not weigh.
	orders(t, "a", accepted(3, 3, "zzz"), accepted(3, 4, "a"))
	orders(t, "own", accepted(3, 3, "zzz"), accepted(3, 4, "own"))
}

func TestAcceptedInAnyTwo(t *testing.T) {
	for x, a := range ballots {
		for y, b := range ballots {
			switch {
			case x < y:
				asked(t, "y", api.Accepted{Is: true, B: a, Value: "x"}, api.Accepted{Is: true, B: b, Value: "y"})
			default:
				// Also of two in the same ballot the first one that was counted is told.
				asked(t, "x", api.Accepted{Is: true, B: a, Value: "x"}, api.Accepted{Is: true, B: b, Value: "y"})
			}
		}
	}
}

// Of several in the same ballot, the first one that was counted is told.
func TestAcceptedTwiceInABallot(t *testing.T) {
	x, y, z, empty := accepted(3, 3, "x"), accepted(3, 3, "y"), accepted(3, 3, "z"), accepted(3, 3, "")
	low, high := accepted(3, 2, "low"), accepted(3, 4, "high")
	asked(t, "x", x, y)
	asked(t, "y", y, x)
	asked(t, "x", x, y, z)
	asked(t, "z", z, y, x)
	asked(t, "x", nothing, x, y, z)
	asked(t, "y", low, y, x)
	asked(t, "y", y, low, x)
	asked(t, "y", low, nothing, y, low, x)
	asked(t, "high", x, high, y)
	asked(t, "x", x, nothing, low, y, empty)
	asked(t, "", empty, x)
	asked(t, "x", x, empty)
	orders(t, "x", x, x, x)
	asked(t, "0", accepted(0, 0, "0"), accepted(0, 0, "1"))
	asked(t, "1", accepted(0, 0, "1"), accepted(0, 0, "0"))
}

// What was accepted in a ballot of round 0, also in the zero one, is accepted.
func TestAcceptedInRoundZero(t *testing.T) {
	orders(t, "x", accepted(0, 0, "x"), nothing)
	orders(t, "x", accepted(0, 200, "x"), nothing, nothing)
	orders(t, "x", accepted(0, 1, "x"), accepted(0, 0, "y"))
	orders(t, "y", accepted(0, 255, "x"), accepted(1, 0, "y"), nothing)
	orders(t, "", accepted(0, 0, ""), nothing)
}

// The empty value is a value, and is told from none.
func TestAcceptedOfTheEmptyValue(t *testing.T) {
	orders(t, "", accepted(3, 3, ""), nothing)
	orders(t, "", accepted(3, 3, ""), accepted(2, 3, "x"))
	orders(t, "x", accepted(3, 3, ""), accepted(4, 3, "x"))
	for n := 1; n <= mostAcceptors; n++ {
		p := made(t, 6, n)
		b := begins(t, p, 6, 5, "a")
		for from := range half(n) - 1 {
			counts(t, p, from, b, accepted(4, 4, ""))
		}
		decides(t, p, half(n)-1, b, accepted(4, 4, ""), "")
		for from := range n {
			counts(t, p, from, b, nothing)
		}
	}
}

// Where nothing was accepted, a ballot and a value beside that mean nothing.
func TestNothingAcceptedWithFields(t *testing.T) {
	odd := api.Accepted{B: ballot(9, 9), Value: "odd"}
	orders(t, "own", odd, nothing, odd)
	orders(t, "own", odd, odd)
	orders(t, "x", odd, accepted(0, 0, "x"))
	orders(t, "x", odd, accepted(3, 3, "x"), api.Accepted{Value: "odder"})
}

// Any text may have been accepted, and is told as it is.
func TestAcceptedValues(t *testing.T) {
	for _, v := range values {
		orders(t, v, accepted(3, 3, v), nothing, accepted(2, 2, "x"))
	}
}

// What comes with a promise that is not counted is not taken into account, for whichever reason it is not counted.
func TestPromisesThatAreNotCounted(t *testing.T) {
	x := accepted(1<<31, 9, "x")
	for n := 2; n <= mostAcceptors; n++ {
		p := made(t, 6, n)
		counts(t, p, 0, zero, x)
		first := begins(t, p, 6, 5, "a")
		counts(t, p, 1, first, x)
		b := begins(t, p, 6, 7, "b")
		counts(t, p, 0, b, accepted(2, 2, "y"))
		for from := range n {
			counts(t, p, from, first, x)
			counts(t, p, from, ballot(7, 7), x)
			counts(t, p, from, ballot(8, 6), x)
			counts(t, p, from, ballot(0, 6), x)
		}
		counts(t, p, 0, b, x)
		counts(t, p, -1, b, x)
		counts(t, p, n, b, x)
		for from := 1; from < half(n)-1; from++ {
			counts(t, p, from, b, nothing)
			counts(t, p, from, b, x)
		}
		decides(t, p, n-1, b, nothing, "y")
	}
}

// The proposer counts what it is told: it does not hold it against its own ballot.
func TestAcceptedInItsOwnBallotOrBehind(t *testing.T) {
	p := made(t, 6, 3)
	b := begins(t, p, 6, 5, "a")
	counts(t, p, 0, b, accepted(5, 6, "x"))
	decides(t, p, 1, b, accepted(5, 7, "y"), "y")
	b = begins(t, p, 6, 6, "a")
	counts(t, p, 0, b, accepted(math.MaxUint32, 255, "z"))
	decides(t, p, 1, b, accepted(6, 6, "y"), "z")
}
