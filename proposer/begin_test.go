package proposer_test

import (
	"math"
	"testing"

	"tontine/api"
)

func TestBeginAtFirst(t *testing.T) {
	for _, round := range []uint32{1, 2, 3, 255, 256, 1<<31 - 1, 1 << 31, math.MaxUint32 - 1, math.MaxUint32} {
		for n := 1; n <= mostAcceptors; n++ {
			begins(t, made(t, 3, n), 3, round, "a")
		}
	}
}

func TestBeginOfRoundZero(t *testing.T) {
	p := made(t, 7, 3)
	refuses(t, p, 0, "a", api.ErrArg)
	begins(t, p, 7, 1, "a")
	refuses(t, p, 0, "a", api.ErrArg)
}

func TestBeginBehindAnother(t *testing.T) {
	rounds := []uint32{1, 2, 3, 4, 255, 256, 257, 1<<31 - 1, 1 << 31, 1<<31 + 1, math.MaxUint32 - 1, math.MaxUint32}
	for x, first := range rounds {
		for y, second := range rounds {
			p := made(t, 0, 3)
			begins(t, p, 0, first, "a")
			if y > x {
				begins(t, p, 0, second, "b")
			} else {
				refuses(t, p, second, "b", api.ErrProposeState)
			}
		}
	}
}

// What counts is the last ballot, also where it was begun long ago and rounds were left out.
func TestBeginOfManyBallots(t *testing.T) {
	p := made(t, 200, 9)
	var round uint32
	for range 90 {
		round += 1 + round/3
		begins(t, p, 200, round, "a")
		for _, less := range []uint32{1, round / 2, round - 1, round} {
			if less > 0 {
				refuses(t, p, less, "b", api.ErrProposeState)
			}
		}
		if round > math.MaxUint32/2 {
			break
		}
	}
}

// Behind the greatest round there is none.
func TestBeginOfTheGreatestRound(t *testing.T) {
	p := made(t, 5, 1)
	begins(t, p, 5, math.MaxUint32-1, "a")
	b := begins(t, p, 5, math.MaxUint32, "b")
	for _, round := range []uint32{1, 2, 1 << 31, math.MaxUint32 - 1, math.MaxUint32} {
		refuses(t, p, round, "c", api.ErrProposeState)
	}
	refuses(t, p, 0, "c", api.ErrArg)
	decides(t, p, 0, b, nothing, "b")
}

// Round 0 is both 0 and not greater than the last one: the first error is told.
func TestErrorsOfBeginInTheirOrder(t *testing.T) {
	p := made(t, 5, 2)
	for _, round := range []uint32{1, 2, 1 << 31, math.MaxUint32} {
		begins(t, p, 5, round, "a")
		refuses(t, p, round, "b", api.ErrProposeState)
		refuses(t, p, 0, "b", api.ErrArg)
	}
}

// A Begin that is refused leaves the ballot, the promises that were counted and the value as they were.
func TestRefusedBeginChangesNothing(t *testing.T) {
	for n := 1; n <= mostAcceptors; n++ {
		for with := range half(n) {
			for _, was := range []api.Accepted{nothing, accepted(2, 2, "x")} {
				p := made(t, 5, n)
				b := begins(t, p, 5, 9, "a")
				want := "a"
				for from := range with {
					counts(t, p, from, b, was)
					want = told(was, "a")
				}
				refuses(t, p, 0, "b", api.ErrArg)
				refuses(t, p, 8, "b", api.ErrProposeState)
				refuses(t, p, 9, "b", api.ErrProposeState)
				for from := range with {
					counts(t, p, from, b, accepted(8, 8, "z"))
				}
				for from := with; from < half(n)-1; from++ {
					counts(t, p, from, b, nothing)
				}
				refuses(t, p, 1, "b", api.ErrProposeState)
				decides(t, p, n-1, b, nothing, want)
				refuses(t, p, 9, "b", api.ErrProposeState)
				for from := range n {
					counts(t, p, from, b, nothing)
				}
			}
		}
	}
}

// told is the value that is to be accepted where that was accepted, or nothing.
func told(was api.Accepted, own string) string {
	if was.Is {
		return was.Value
	}
	return own
}

// A Begin that is refused before the first ballot leaves the proposer without one.
func TestRefusedBeginBeforeAny(t *testing.T) {
	p := made(t, 5, 1)
	refuses(t, p, 0, "a", api.ErrArg)
	counts(t, p, 0, ballot(0, 5), nothing)
	counts(t, p, 0, zero, nothing)
	b := begins(t, p, 5, 1, "b")
	decides(t, p, 0, b, nothing, "b")
}

// Begin forgets what was promised and accepted for the ballot before, and its value, however far that one has come.
func TestBeginForgetsTheBallotBefore(t *testing.T) {
	for n := 1; n <= mostAcceptors; n++ {
		for with := range n + 1 {
			p := made(t, 9, n)
			first := begins(t, p, 9, 3, "a")
			for from := range with {
				if from == half(n)-1 {
					decides(t, p, from, first, accepted(2, 2, "x"), "x")
				} else {
					counts(t, p, from, first, accepted(2, 2, "x"))
				}
			}
			second := begins(t, p, 9, 4, "b")
			for from := range n {
				counts(t, p, from, first, accepted(2, 2, "x"))
			}
			for from := range half(n) - 1 {
				counts(t, p, from, second, nothing)
			}
			decides(t, p, n-1, second, nothing, "b")
			counts(t, p, half(n)-1, second, nothing)
		}
	}
}

// What was accepted for the ballot before does not weigh more than what is accepted now, though its ballot is greater.
func TestBeginForgetsTheGreaterBallot(t *testing.T) {
	p := made(t, 9, 3)
	b := begins(t, p, 9, 10, "a")
	counts(t, p, 0, b, accepted(9, 9, "x"))
	b = begins(t, p, 9, 11, "b")
	counts(t, p, 0, b, accepted(0, 0, "y"))
	decides(t, p, 2, b, nothing, "y")
	b = begins(t, p, 9, 12, "c")
	counts(t, p, 0, b, nothing)
	decides(t, p, 1, b, accepted(0, 1, "z"), "z")
	b = begins(t, p, 9, 13, "")
	counts(t, p, 0, b, nothing)
	decides(t, p, 1, b, nothing, "")
}

// The proposer's own value may be any text, and is told as it is.
func TestOwnValues(t *testing.T) {
	for n := 1; n <= mostAcceptors; n++ {
		p := made(t, 0, n)
		for i, v := range values {
			b := begins(t, p, 0, uint32(i+1), v)
			for from := range half(n) - 1 {
				counts(t, p, from, b, nothing)
			}
			decides(t, p, half(n)-1, b, nothing, v)
		}
	}
}

func TestBallotBeforeAndBehindBegin(t *testing.T) {
	p := made(t, 6, 3)
	isAt(t, p, zero, false)
	counts(t, p, 0, zero, nothing)
	isAt(t, p, zero, false)
	b := begins(t, p, 6, 2, "a")
	counts(t, p, 0, b, nothing)
	isAt(t, p, b, true)
	decides(t, p, 1, b, nothing, "a")
	isAt(t, p, b, true)
	b = begins(t, p, 6, 7, "a")
	isAt(t, p, ballot(7, 6), true)
	counts(t, p, 0, b, nothing)
	isAt(t, p, ballot(7, 6), true)
}
