package proposer_test

import (
	"math"
	"testing"

	"tontine/api"
)

// With the message that makes more than half in one ballot with one value, this is chosen.
func TestAccepted(t *testing.T) {
	for n := 1; n <= mostAcceptors; n++ {
		for _, b := range ballots {
			for _, v := range values[:4] {
				l := learner(t, n)
				for from := range half(n) - 1 {
					hears(t, l, from, b, v)
					learnt(t, l, "", false)
				}
				chooses(t, l, n-1, b, v)
			}
		}
	}
}

func TestAcceptedByAnySet(t *testing.T) {
	for n := 1; n <= mostAcceptors; n++ {
		for set := range 1 << n {
			l := learner(t, n)
			seen := 0
			for k := range n {
				from := k
				if set%3 == 0 {
					from = n - 1 - k
				}
				if set>>from&1 == 0 {
					continue
				}
				seen++
				if seen == half(n) {
					chooses(t, l, from, ballot(2, 1), "v")
				} else {
					hears(t, l, from, ballot(2, 1), "v")
				}
			}
			learnt(t, l, told(api.Accepted{Is: seen >= half(n), Value: "v"}, ""), seen >= half(n))
		}
	}
}

func TestAcceptedValuesOfAnyText(t *testing.T) {
	for _, v := range values {
		l := learner(t, 2)
		hears(t, l, 1, ballot(2, 1), v)
		chooses(t, l, 0, ballot(2, 1), v)
	}
}

func TestAcceptedFromNobody(t *testing.T) {
	for n := 1; n <= mostAcceptors; n++ {
		l := learner(t, n)
		wrong := append([]int{-1, -2, -n, n, n + 1, n + 2, 8 + n, 9 + n, 16, 32, 64, 255, 256, 1<<32 - 1, 1 << 32, math.MinInt, math.MaxInt}, wrongNumbers...)
		for range 2 {
			for _, from := range wrong {
				hears(t, l, from, ballot(1, 1), "v")
			}
		}
		for from := range half(n) - 1 {
			hears(t, l, from, ballot(1, 1), "v")
		}
		for _, from := range wrong {
			hears(t, l, from, ballot(1, 1), "v")
		}
		learnt(t, l, "", false)
		chooses(t, l, n-1, ballot(1, 1), "v")
		for _, from := range wrong {
			hears(t, l, from, ballot(2, 1), "w")
		}
		learnt(t, l, "v", true)
	}
}

// Of two messages of an acceptor, the one that came second counts just if its ballot is greater.
func TestAcceptedBehindAnother(t *testing.T) {
	for x, first := range ballots {
		for y, second := range ballots {
			l := learner(t, 2)
			hears(t, l, 0, first, "v")
			hears(t, l, 0, second, "w")
			if y > x {
				hears(t, l, 1, first, "v")
				learnt(t, l, "", false)
				chooses(t, l, 1, second, "w")
			} else {
				if y < x {
					hears(t, l, 1, second, "w")
				}
				learnt(t, l, "", false)
				chooses(t, l, 1, first, "v")
			}
		}
	}
}

func TestAcceptedByRoundAndByNodeAlone(t *testing.T) {
	l := learner(t, 3)
	hears(t, l, 0, ballot(5, 5), "v")
	for _, b := range []api.Ballot{ballot(4, 5), ballot(5, 4), ballot(4, 6), ballot(5, 5), zero, ballot(0, 255)} {
		hears(t, l, 0, b, "w")
		hears(t, l, 1, b, "w")
	}
	// The second acceptor has come to 5 5 with w, while the first one's last message is v.
	learnt(t, l, "", false)
	hears(t, l, 1, ballot(5, 6), "w")
	hears(t, l, 0, ballot(6, 5), "w")
	hears(t, l, 0, ballot(5, 6), "w")
	hears(t, l, 2, ballot(5, 5), "v")
	learnt(t, l, "", false)
	chooses(t, l, 2, ballot(5, 6), "w")
}

// A first message counts in whichever ballot, also in the zero one.
func TestAcceptedInTheZeroBallot(t *testing.T) {
	for n := 1; n <= mostAcceptors; n++ {
		l := learner(t, n)
		for from := range half(n) - 1 {
			hears(t, l, from, zero, "v")
			hears(t, l, from, zero, "v")
		}
		chooses(t, l, half(n)-1, zero, "v")
	}
	l := learner(t, 3)
	hears(t, l, 0, zero, "")
	hears(t, l, 0, zero, "")
	learnt(t, l, "", false)
	chooses(t, l, 1, zero, "")
	l = learner(t, 1)
	chooses(t, l, 0, zero, "")
}

// An empty value that is chosen is told from none, and an empty value that an acceptor has sent from no message.
func TestAcceptedOfTheEmptyValueByMost(t *testing.T) {
	for n := 1; n <= mostAcceptors; n++ {
		l := learner(t, n)
		for from := range half(n) - 1 {
			hears(t, l, from, ballot(1, 1), "")
			hears(t, l, from, zero, "")
			hears(t, l, from, ballot(1, 1), "v")
		}
		learnt(t, l, "", false)
		chooses(t, l, half(n)-1, ballot(1, 1), "")
		hears(t, l, 0, ballot(2, 2), "v")
		learnt(t, l, "", true)
	}
}

// The same value in different ballots is not chosen, by round and by node.
func TestAcceptedInDifferentBallots(t *testing.T) {
	for n := 3; n <= mostAcceptors; n++ {
		l := learner(t, n)
		for from := range n {
			hears(t, l, from, ballot(uint32(from/2+1), uint8(from%2)), "v")
		}
		learnt(t, l, "", false)
		l = learner(t, n)
		for from := range n {
			hears(t, l, from, ballot(1, uint8(from)), "v")
		}
		learnt(t, l, "", false)
		l = learner(t, n)
		for from := range n {
			hears(t, l, from, ballot(uint32(from), 1), "v")
		}
		learnt(t, l, "", false)
		for from := range half(n) - 1 {
			hears(t, l, from, ballot(100, 1), "v")
		}
		learnt(t, l, "", false)
		chooses(t, l, n-1, ballot(100, 1), "v")
	}
}

// Different values in the same ballot are not chosen, though a majority has accepted in it.
func TestAcceptedOfDifferentValues(t *testing.T) {
	for n := 2; n <= mostAcceptors; n++ {
		l := learner(t, n)
		for from := range half(n) - 1 {
			hears(t, l, from, ballot(2, 2), "v")
		}
		for from := half(n) - 1; from < 2*half(n)-2; from++ {
			hears(t, l, from, ballot(2, 2), "w")
		}
		learnt(t, l, "", false)
		if 2*half(n)-2 < n {
			chooses(t, l, n-1, ballot(2, 2), "w")
		}
	}
	l := learner(t, 9)
	for from, v := range []string{"", "a", "b", "A", "aa", "\x00", "a\x00", "\x00a", "0"} {
		hears(t, l, from, ballot(2, 2), v)
	}
	learnt(t, l, "", false)
}

// A majority that an acceptor's later message has left is none; the messages need not have stood together at any time.
func TestAcceptedThatIsLeft(t *testing.T) {
	l := learner(t, 3)
	hears(t, l, 0, ballot(1, 1), "v")
	hears(t, l, 0, ballot(2, 2), "w")
	hears(t, l, 1, ballot(1, 1), "v")
	learnt(t, l, "", false)
	hears(t, l, 1, ballot(3, 3), "w")
	hears(t, l, 2, ballot(2, 1), "w")
	learnt(t, l, "", false)
	chooses(t, l, 2, ballot(2, 2), "w")

	for n := 3; n <= mostAcceptors; n++ {
		l := learner(t, n)
		// All but one leave a ballot as soon as they have accepted in it.
		for round := range uint32(20) {
			for from := range n {
				hears(t, l, from, ballot(round, 1), "v")
				hears(t, l, from, ballot(round, uint8(2+from)), "v")
			}
		}
		learnt(t, l, "", false)
		for from := range half(n) - 1 {
			hears(t, l, from, ballot(20, 0), "v")
		}
		chooses(t, l, n-1, ballot(20, 0), "v")
	}
}

// A later message with the same value in a greater ballot leaves the lesser one too.
func TestAcceptedAgainInAGreaterBallot(t *testing.T) {
	l := learner(t, 3)
	hears(t, l, 0, ballot(1, 1), "v")
	hears(t, l, 0, ballot(1, 2), "v")
	hears(t, l, 1, ballot(1, 1), "v")
	learnt(t, l, "", false)
	hears(t, l, 2, ballot(2, 1), "v")
	learnt(t, l, "", false)
	chooses(t, l, 1, ballot(2, 1), "v")
}

// Behind the choice nothing is told and nothing changes, whatever comes.
func TestAcceptedBehindTheChoice(t *testing.T) {
	for n := 1; n <= mostAcceptors; n++ {
		for _, v := range []string{"v", ""} {
			l := learner(t, n)
			for from := range half(n) - 1 {
				hears(t, l, from, ballot(2, 2), v)
			}
			chooses(t, l, half(n)-1, ballot(2, 2), v)
			for round := range uint32(5) {
				for from := -1; from <= n; from++ {
					for _, w := range []string{v, "w", ""} {
						hears(t, l, from, ballot(round, 2), w)
						learnt(t, l, v, true)
					}
				}
			}
			for from := range n {
				hears(t, l, from, last, "w")
				learnt(t, l, v, true)
			}
		}
	}
}

// A message that is not processed changes nothing: neither the last message of its acceptor nor that of another one.
func TestMessagesThatAreNotProcessed(t *testing.T) {
	l := learner(t, 5)
	idle := func() {
		t.Helper()
		for from, b := range []api.Ballot{ballot(3, 3), ballot(2, 9), ballot(1, 0)} {
			hears(t, l, from, b, "w")
			hears(t, l, from, ballot(1, 0), "w")
			hears(t, l, from, zero, "")
			hears(t, l, from, b, "u")
		}
		hears(t, l, -1, ballot(3, 3), "u")
		hears(t, l, 5, ballot(3, 3), "u")
		hears(t, l, 6, last, "u")
		learnt(t, l, "", false)
	}
	hears(t, l, 0, ballot(3, 3), "u")
	hears(t, l, 1, ballot(3, 3), "w")
	hears(t, l, 2, ballot(1, 0), "u")
	idle()
	hears(t, l, 3, ballot(3, 3), "u")
	idle()
	hears(t, l, 4, ballot(3, 2), "u")
	idle()
	// Had the second acceptor's w been replaced by its u, this would not be needed.
	chooses(t, l, 2, ballot(3, 3), "u")
}
