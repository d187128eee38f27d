package acceptor_test

import (
	"testing"

	"tontine/api"
)

func TestAcceptOfWhatIsNotKnown(t *testing.T) {
	for _, i := range insts {
		for _, b := range ballots {
			x := made(t, 2)
			accepts(t, x, i, b, "v")
			knows(t, x, i, b, in(b, "v"))
			counts(t, x, 1)
		}
	}
}

// A value of any length and of any bytes is accepted as it is.
func TestAcceptOfValues(t *testing.T) {
	x := made(t, 1)
	for n, v := range values {
		b := ballot(uint32(n), 1)
		accepts(t, x, one, b, v)
		knows(t, x, one, b, in(b, v))
	}
}

func TestAcceptBehindPrepare(t *testing.T) {
	for _, first := range ballots {
		for _, second := range ballots {
			x := made(t, 2)
			promises(t, x, one, first, nothing)
			if rank(second) < rank(first) {
				refuses(t, x, one, second, "v", first)
				knows(t, x, one, first, nothing)
			} else {
				accepts(t, x, one, second, "v")
				knows(t, x, one, second, in(second, "v"))
			}
			counts(t, x, 1)
		}
	}
}

// To accept in a ballot is to promise it too.
func TestAcceptBehindAccept(t *testing.T) {
	for _, first := range ballots {
		for _, second := range ballots {
			x := made(t, 2)
			accepts(t, x, one, first, "v")
			if rank(second) < rank(first) {
				refuses(t, x, one, second, "w", first)
				knows(t, x, one, first, in(first, "v"))
			} else {
				accepts(t, x, one, second, "w")
				knows(t, x, one, second, in(second, "w"))
			}
			counts(t, x, 1)
		}
	}
}

func TestAcceptByRoundAndByNodeAlone(t *testing.T) {
	x := made(t, 1)
	accepts(t, x, one, ballot(5, 5), "v")
	refuses(t, x, one, ballot(4, 5), "w", ballot(5, 5))
	refuses(t, x, one, ballot(5, 4), "w", ballot(5, 5))
	refuses(t, x, one, ballot(4, 6), "w", ballot(5, 5))
	knows(t, x, one, ballot(5, 5), accepted(5, 5, "v"))
	accepts(t, x, one, ballot(5, 6), "w")
	refuses(t, x, one, ballot(5, 5), "v", ballot(5, 6))
	knows(t, x, one, ballot(5, 6), accepted(5, 6, "w"))
	accepts(t, x, one, ballot(6, 0), "")
	knows(t, x, one, ballot(6, 0), accepted(6, 0, ""))
	refuses(t, x, one, ballot(5, 255), "v", ballot(6, 0))
	knows(t, x, one, ballot(6, 0), accepted(6, 0, ""))
	accepts(t, x, one, last, "u")
	for _, b := range ballots[:len(ballots)-1] {
		refuses(t, x, one, b, "v", last)
	}
	knows(t, x, one, last, accepted(1<<32-1, 255, "u"))
}

// The table does not hold against a proposer that it names two values in a ballot: the last one stays.
func TestAcceptTwiceInABallot(t *testing.T) {
	for _, b := range ballots {
		x := made(t, 1)
		for _, v := range values {
			accepts(t, x, one, b, v)
			knows(t, x, one, b, in(b, v))
			promises(t, x, one, b, in(b, v))
			accepts(t, x, one, b, v)
			knows(t, x, one, b, in(b, v))
		}
		counts(t, x, 1)
	}
}

// An empty value that was accepted is told from none.
func TestAcceptOfTheEmptyValue(t *testing.T) {
	x := made(t, 2)
	promises(t, x, one, ballot(1, 1), nothing)
	knows(t, x, one, ballot(1, 1), nothing)
	accepts(t, x, one, ballot(1, 1), "")
	knows(t, x, one, ballot(1, 1), accepted(1, 1, ""))
	promises(t, x, one, ballot(2, 0), api.Accepted{Is: true, B: ballot(1, 1)})
	accepts(t, x, one, ballot(2, 0), "v")
	accepts(t, x, one, ballot(2, 0), "")
	promises(t, x, one, ballot(2, 0), accepted(2, 0, ""))
	accepts(t, x, insts[1], ballot(1, 1), "")
	knows(t, x, insts[1], ballot(1, 1), accepted(1, 1, ""))
}

// A promise between two acceptances leaves the first one as it was till the second.
func TestPromisesBetweenAcceptances(t *testing.T) {
	x := made(t, 1)
	accepts(t, x, one, ballot(1, 1), "v")
	promises(t, x, one, ballot(4, 2), accepted(1, 1, "v"))
	refuses(t, x, one, ballot(1, 1), "v", ballot(4, 2))
	refuses(t, x, one, ballot(4, 1), "w", ballot(4, 2))
	knows(t, x, one, ballot(4, 2), accepted(1, 1, "v"))
	promises(t, x, one, ballot(4, 3), accepted(1, 1, "v"))
	accepts(t, x, one, ballot(6, 0), "w")
	knows(t, x, one, ballot(6, 0), accepted(6, 0, "w"))
	promises(t, x, one, ballot(6, 0), accepted(6, 0, "w"))
	refuses(t, x, one, ballot(4, 3), "u", ballot(6, 0))
	knows(t, x, one, ballot(6, 0), accepted(6, 0, "w"))
}
