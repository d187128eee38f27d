package faildet_test

import (
	"math/rand/v2"
	"slices"
	"testing"

	"tontine/api"
	"tontine/faildet"
)

// heart is a node that beats, and how often it was wrongly suspected.
type heart struct {
	t     *testing.T
	d     *faildet.Detector
	now   int64
	wrong int
}

func heartOf(t *testing.T, guess int64) *heart {
	t.Helper()
	h := &heart{t: t, d: made(t, guess)}
	watches(t, h.d, 3, 0, api.OK)
	return h
}

// beat lets the node be silent for so many ticks, and heard then.
func (h *heart) beat(x int64) {
	h.t.Helper()
	h.now += x
	if slices.Contains(h.d.Suspects(h.now), 3) {
		h.wrong++
	}
	beats(h.t, h.d, 3, h.now, api.OK)
	suspects(h.t, h.d, h.now)
	if wait := h.wait(); wait < leastWait || wait > mostWait {
		h.t.Fatalf("a wait of %d", wait)
	}
}

func (h *heart) wait() int64 {
	h.t.Helper()
	wait, e := h.d.Wait(3)
	if e != api.OK {
		h.t.Fatalf("Wait: %d", e)
	}
	return wait
}

// suspectedAtMost holds how often the node was wrongly suspected; nobody may be more often than 13 times.
func (h *heart) suspectedAtMost(most int) {
	h.t.Helper()
	if h.wrong > most || h.wrong > 13 {
		h.t.Errorf("a node that beats at least every 4096 ticks is suspected %d times", h.wrong)
	}
}

// doublings is how often a margin may be doubled till it is 4096.
func doublings(margin int64) int {
	n := 0
	for margin < mostWait {
		margin *= 2
		n++
	}
	return n
}

// Each silence is just long enough, as long as it may be, and the mean is brought down ahead of it: it is as bad as can be.
func TestWorstNode(t *testing.T) {
	for _, guess := range slices.Concat(guesses, []int64{7, 3000}) {
		h := heartOf(t, guess)
		for range 500 {
			for range 80 {
				h.beat(0)
			}
			h.beat(min(h.wait()+1, mostWait))
		}
		h.suspectedAtMost(doublings(guess))
		// Each of them doubles the margin, and no more than that.
		if h.wrong != doublings(guess) || h.wait() != mostWait {
			t.Errorf("New(%d): suspected %d times, and a wait of %d", guess, h.wrong, h.wait())
		}
	}
}

// Without a pause between the silences, the mean grows too.
func TestNodeThatIsAlwaysTooLate(t *testing.T) {
	for guess := int64(1); guess <= mostWait; guess += 1 + guess/16 {
		h := heartOf(t, guess)
		for range 500 {
			h.beat(min(h.wait()+1, mostWait))
		}
		h.suspectedAtMost(doublings(guess))
	}
}

// Whatever a node does within 4096 ticks, and however long it is watched.
func TestNodesThatBeat(t *testing.T) {
	r := rand.New(rand.NewPCG(9, 3))
	for _, guess := range guesses {
		for range 20 {
			h := heartOf(t, guess)
			most := 1 + r.Int64N(mostWait)
			for range 2000 {
				switch r.IntN(4) {
				case 0:
					h.beat(min(h.wait()+r.Int64N(3), mostWait))
				case 1:
					h.beat(r.Int64N(8))
				case 2:
					h.beat(most)
				default:
					h.beat(r.Int64N(mostWait + 1))
				}
			}
			h.suspectedAtMost(doublings(guess))
		}
	}
}

// A node that is silent for longer is suspected each time, however often that was.
func TestNodeThatIsSilentForLonger(t *testing.T) {
	for _, guess := range guesses {
		h := heartOf(t, guess)
		for i := range 200 {
			h.beat(mostWait + 1)
			if h.wrong != i+1 {
				t.Fatalf("New(%d): suspected %d times behind %d silences", guess, h.wrong, i+1)
			}
		}
		if wait := h.wait(); wait != mostWait {
			t.Errorf("New(%d): a wait of %d", guess, wait)
		}
	}
}

// Whoever is heard is not suspected then, at whatever time.
func TestHeardIsNotSuspected(t *testing.T) {
	for _, guess := range guesses {
		d := made(t, guess)
		for _, now := range times {
			watches(t, d, 3, now, api.OK)
			suspects(t, d, now)
			for _, then := range times {
				beats(t, d, 3, then, api.OK)
				suspects(t, d, then)
				suspects(t, d, max(now, then))
			}
			leaves(t, d, 3, api.OK)
		}
	}
}

// Two detectors that get the same answer the same, whatever else is asked in between.
func TestSameCallsSameAnswers(t *testing.T) {
	r := rand.New(rand.NewPCG(9, 4))
	a, b := full(t, 10, 12), full(t, 10, 12)
	now := int64(0)
	for range 3000 {
		peer := 20 * r.IntN(12)
		now += r.Int64N(9)
		a.Beat(peer, now)
		b.Beat(peer, now)
		a.Suspects(r.Int64N(2 * (now + 1)))
		a.Wait(peer)
		a.Peers()
		if one, two := a.Suspects(now), b.Suspects(now); !slices.Equal(one, two) {
			t.Fatalf("Suspects(%d): %v and %v", now, one, two)
		}
		if one, two := a.Changes(now), b.Changes(now); !slices.Equal(one, two) {
			t.Fatalf("Changes(%d): %v and %v", now, one, two)
		}
	}
}
