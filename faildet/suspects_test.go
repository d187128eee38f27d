package faildet_test

import (
	"testing"

	"tontine/api"
)

func TestSuspects(t *testing.T) {
	d := made(t, 10)
	suspects(t, d, 0)
	watches(t, d, 9, 100, api.OK)
	watches(t, d, 200, 90, api.OK)
	watches(t, d, 10, 95, api.OK)
	for now := int64(0); now <= 130; now++ {
		var want []int
		if now > 110 {
			want = append(want, 9)
		}
		if now > 105 {
			want = append(want, 10)
		}
		if now > 100 {
			want = append(want, 200)
		}
		suspects(t, d, now, want...)
	}
	suspects(t, d, lastTime, 9, 10, 200)
	// Time may go back from one call to the next.
	suspects(t, d, 101, 200)
	suspects(t, d, 0)
}

// To ask changes nothing: neither what Changes tells nor what a beat does.
func TestSuspectsChangesNothing(t *testing.T) {
	d := made(t, 10)
	watches(t, d, 3, 100, api.OK)
	suspects(t, d, 500, 3)
	suspects(t, d, 100)
	suspects(t, d, lastTime, 3)
	suspects(t, d, 0)
	changes(t, d, 111, bad(3))
	suspects(t, d, 100)
	changes(t, d, 111)
	suspects(t, d, 900, 3)
	beats(t, d, 3, 110, api.OK)
	waitIs(t, d, 3, 11)
}

func TestAtWhatIsNoTime(t *testing.T) {
	d := full(t, 10, 12)
	all := d.Suspects(11)
	if len(all) != 12 {
		t.Errorf("Suspects: %v", all)
	}
	for _, now := range wrongTimes {
		suspects(t, d, now)
		changes(t, d, now)
	}
	suspects(t, d, 11, all...)
	var told []api.Change
	for _, peer := range all {
		told = append(told, bad(peer))
	}
	// That Changes told nothing then is no call of it: all is told now, and once.
	changes(t, d, 11, told...)
	for _, now := range wrongTimes {
		changes(t, d, now)
	}
	changes(t, d, 11)
	for _, now := range wrongTimes {
		changes(t, d, now)
	}
	for i, peer := range all {
		told[i] = good(peer)
	}
	changes(t, d, 10, told...)
}

func TestChanges(t *testing.T) {
	d := made(t, 10)
	changes(t, d, 0)
	watches(t, d, 30, 100, api.OK)
	watches(t, d, 4, 105, api.OK)
	watches(t, d, 11, 110, api.OK)
	changes(t, d, 110)
	changes(t, d, 111, bad(30))
	changes(t, d, 111)
	changes(t, d, 115)
	changes(t, d, 121, bad(4), bad(11))
	changes(t, d, lastTime)
	beats(t, d, 11, 122, api.OK)
	beats(t, d, 30, 122, api.OK)
	changes(t, d, 122, good(11), good(30))
	changes(t, d, 122)
	// What changed both ways is told in one list, in the order of the nodes. The waits of 11 and 30 are 21 and 22.
	beats(t, d, 4, 143, api.OK)
	changes(t, d, 144, good(4), bad(11))
	changes(t, d, 145, bad(30))
	changes(t, d, 145)
}

// It is the last call that counts, though its time was a later one.
func TestChangesAtEarlierTimes(t *testing.T) {
	d := made(t, 10)
	watches(t, d, 3, 100, api.OK)
	changes(t, d, 150, bad(3))
	changes(t, d, 110, good(3))
	changes(t, d, 0)
	changes(t, d, 111, bad(3))
	changes(t, d, 50, good(3))
	changes(t, d, lastTime, bad(3))
}

// What comes and goes between two calls is not told.
func TestChangesBetweenTwoCalls(t *testing.T) {
	d := made(t, 10)
	watches(t, d, 3, 100, api.OK)
	changes(t, d, 110)
	suspects(t, d, 130, 3)
	beats(t, d, 3, 130, api.OK)
	changes(t, d, 130)
	changes(t, d, 200, bad(3))
	beats(t, d, 3, 200, api.OK)
	suspects(t, d, 200)
	changes(t, d, 300)
	beats(t, d, 3, 300, api.OK)
	changes(t, d, 301, good(3))
}

// What is not watched is not told, and what is watched anew was not suspected before.
func TestChangesBehindLeave(t *testing.T) {
	d := made(t, 10)
	watches(t, d, 3, 100, api.OK)
	watches(t, d, 4, 100, api.OK)
	changes(t, d, 111, bad(3), bad(4))
	leaves(t, d, 3, api.OK)
	changes(t, d, 100, good(4))
	changes(t, d, 111, bad(4))

	watches(t, d, 3, 111, api.OK)
	changes(t, d, 121)
	changes(t, d, 122, bad(3))

	leaves(t, d, 3, api.OK)
	watches(t, d, 3, 100, api.OK)
	changes(t, d, 122, bad(3))
	changes(t, d, 122)

	leaves(t, d, 3, api.OK)
	leaves(t, d, 4, api.OK)
	changes(t, d, 122)
	watches(t, d, 4, 122, api.OK)
	changes(t, d, 122)
	changes(t, d, 100)
	changes(t, d, lastTime, bad(4))
}

// Calls that are refused do not change what is told.
func TestChangesBehindErrors(t *testing.T) {
	d := made(t, 10)
	watches(t, d, 3, 100, api.OK)
	changes(t, d, 111, bad(3))
	watches(t, d, 3, -1, api.ErrArg)
	watches(t, d, 256, 0, api.ErrArg)
	beats(t, d, 3, lastTime+1, api.ErrArg)
	beats(t, d, 4, 111, api.ErrDetectNone)
	leaves(t, d, 4, api.ErrDetectNone)
	noWait(t, d, 4, api.ErrDetectNone)
	changes(t, d, 111)
	changes(t, d, 110, good(3))
}
