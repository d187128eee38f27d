package acceptor_test

import "testing"

func TestPrepareOfWhatIsNotKnown(t *testing.T) {
	for _, i := range insts {
		for _, b := range ballots {
			x := made(t, 2)
			promises(t, x, i, b, nothing)
			knows(t, x, i, b, nothing)
			counts(t, x, 1)
		}
	}
}

// A ballot that was promised is held against each other one.
func TestPrepareBehindPrepare(t *testing.T) {
	for _, first := range ballots {
		for _, second := range ballots {
			x := made(t, 2)
			promises(t, x, one, first, nothing)
			if rank(second) < rank(first) {
				refuses(t, x, one, second, "v", first)
				knows(t, x, one, first, nothing)
			} else {
				promises(t, x, one, second, nothing)
				knows(t, x, one, second, nothing)
			}
			counts(t, x, 1)
		}
	}
}

func TestPrepareByRoundAndByNodeAlone(t *testing.T) {
	x := made(t, 1)
	promises(t, x, one, ballot(5, 5), nothing)
	refuses(t, x, one, ballot(4, 5), "v", ballot(5, 5))
	refuses(t, x, one, ballot(5, 4), "v", ballot(5, 5))
	refuses(t, x, one, ballot(4, 6), "v", ballot(5, 5))
	knows(t, x, one, ballot(5, 5), nothing)
	// The one that was promised may be asked for again.
	promises(t, x, one, ballot(5, 5), nothing)
	promises(t, x, one, ballot(5, 6), nothing)
	refuses(t, x, one, ballot(5, 5), "v", ballot(5, 6))
	promises(t, x, one, ballot(6, 0), nothing)
	refuses(t, x, one, ballot(5, 255), "v", ballot(6, 0))
	knows(t, x, one, ballot(6, 0), nothing)
	promises(t, x, one, last, nothing)
	for _, b := range ballots[:len(ballots)-1] {
		refuses(t, x, one, b, "v", last)
	}
	promises(t, x, one, last, nothing)
	knows(t, x, one, last, nothing)
}

// What was accepted comes back with the ballot in which it was, not with the one that is promised now.
func TestPrepareBehindAccept(t *testing.T) {
	for _, v := range values {
		for at, b := range ballots {
			x := made(t, 1)
			promises(t, x, one, zero, nothing)
			accepts(t, x, one, b, v)
			for _, less := range ballots[:at] {
				refuses(t, x, one, less, "w", b)
				knows(t, x, one, b, in(b, v))
			}
			for _, more := range ballots[at:] {
				promises(t, x, one, more, in(b, v))
				knows(t, x, one, more, in(b, v))
			}
			counts(t, x, 1)
		}
	}
}

// The zero ballot is a ballot as any other: it is promised, and what is accepted in it was accepted.
func TestZeroBallot(t *testing.T) {
	x := made(t, 2)
	promises(t, x, one, zero, nothing)
	knows(t, x, one, zero, nothing)
	counts(t, x, 1)
	promises(t, x, one, zero, nothing)
	accepts(t, x, one, zero, "")
	knows(t, x, one, zero, accepted(0, 0, ""))
	promises(t, x, one, zero, accepted(0, 0, ""))
	accepts(t, x, insts[1], zero, "v")
	knows(t, x, insts[1], zero, accepted(0, 0, "v"))
	promises(t, x, insts[1], ballot(0, 1), accepted(0, 0, "v"))
	refuses(t, x, insts[1], zero, "w", ballot(0, 1))
	knows(t, x, insts[1], ballot(0, 1), accepted(0, 0, "v"))
}
