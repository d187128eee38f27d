package faildet_test

import (
	"math/rand/v2"
	"slices"
	"testing"

	"tontine/api"
)

func TestWatch(t *testing.T) {
	for _, peer := range peers {
		for _, now := range times {
			d := made(t, 10)
			watches(t, d, peer, now, api.OK)
			peersAre(t, d, peer)
			waitIs(t, d, peer, 10)
			suspects(t, d, now)
			if now+11 <= lastTime {
				suspects(t, d, now+10)
				suspects(t, d, now+11, peer)
			}
		}
	}
	for peer := range lastPeer + 1 {
		d := made(t, 10)
		watches(t, d, peer, 5, api.OK)
		peersAre(t, d, peer)
	}
}

func TestWatchOfWhatMayNotBe(t *testing.T) {
	d := made(t, 10)
	for _, peer := range slices.Concat(peers, wrongPeers) {
		for _, now := range slices.Concat(times, wrongTimes) {
			if !slices.Contains(wrongPeers, peer) && !slices.Contains(wrongTimes, now) {
				continue
			}
			watches(t, d, peer, now, api.ErrArg)
			peersAre(t, d)
			noWait(t, d, peer, api.ErrDetectNone)
		}
	}
	changes(t, d, lastTime)
}

// A node that is watched is not watched once more: neither when it was heard nor what was learned changes.
func TestWatchTwice(t *testing.T) {
	d := made(t, 10)
	watches(t, d, 3, 100, api.OK)
	for _, now := range times {
		watches(t, d, 3, now, api.OK)
		suspects(t, d, 110)
		suspects(t, d, 111, 3)
	}
	beats(t, d, 3, 111, api.OK)
	watches(t, d, 3, 500, api.OK)
	waitIs(t, d, 3, 21)
	suspects(t, d, 132)
	suspects(t, d, 133, 3)
	changes(t, d, 133, bad(3))
	watches(t, d, 3, 133, api.OK)
	changes(t, d, 133)
	changes(t, d, 132, good(3))
	peersAre(t, d, 3)
}

func TestWatchTwiceAtWhatIsNoTime(t *testing.T) {
	d := made(t, 10)
	watches(t, d, 3, 100, api.OK)
	for _, now := range wrongTimes {
		watches(t, d, 3, now, api.ErrArg)
		suspects(t, d, 110)
		suspects(t, d, 111, 3)
		waitIs(t, d, 3, 10)
	}
}

func TestRoomFor12Nodes(t *testing.T) {
	d := full(t, 10, 12)
	all := []int{0, 20, 40, 60, 80, 100, 120, 140, 160, 180, 200, 220}
	peersAre(t, d, all...)
	for _, peer := range []int{1, 12, 13, 219, 221, 255} {
		watches(t, d, peer, 5, api.ErrDetectFull)
		peersAre(t, d, all...)
		noWait(t, d, peer, api.ErrDetectNone)
	}
	// One that is watched has 11 others.
	for _, peer := range all {
		watches(t, d, peer, 5, api.OK)
	}
	suspects(t, d, 10)
	suspects(t, d, 11, all...)
	leaves(t, d, 100, api.OK)
	watches(t, d, 255, 5, api.OK)
	watches(t, d, 100, 5, api.ErrDetectFull)
	peersAre(t, d, 0, 20, 40, 60, 80, 120, 140, 160, 180, 200, 220, 255)
}

func TestRoomIsForTheNodesThatAreWatched(t *testing.T) {
	d := made(t, 10)
	// Far more than 12 come and go, at most 12 at a time.
	for peer := range lastPeer + 1 {
		if peer >= 12 {
			watches(t, d, peer, 5, api.ErrDetectFull)
			leaves(t, d, peer-12, api.OK)
		}
		watches(t, d, peer, 5, api.OK)
	}
	peersAre(t, d, 244, 245, 246, 247, 248, 249, 250, 251, 252, 253, 254, 255)
}

// The errors are told in the text's order.
func TestErrorsOfWatchAtOnce(t *testing.T) {
	d := full(t, 10, 12)
	for _, peer := range wrongPeers {
		watches(t, d, peer, 5, api.ErrArg)
		watches(t, d, peer, -1, api.ErrArg)
	}
	for _, now := range wrongTimes {
		watches(t, d, 1, now, api.ErrArg)
		watches(t, d, 20, now, api.ErrArg)
		watches(t, d, 256, now, api.ErrArg)
	}
	watches(t, d, 1, 5, api.ErrDetectFull)
}

func TestLeave(t *testing.T) {
	for _, gone := range []int{0, 20, 120, 220} {
		d := full(t, 10, 12)
		leaves(t, d, gone, api.OK)
		var left []int
		for i := range 12 {
			if 20*i != gone {
				left = append(left, 20*i)
			}
		}
		peersAre(t, d, left...)
		suspects(t, d, 100, left...)
		for range 2 {
			leaves(t, d, gone, api.ErrDetectNone)
			beats(t, d, gone, 5, api.ErrDetectNone)
			noWait(t, d, gone, api.ErrDetectNone)
		}
		peersAre(t, d, left...)
		for _, peer := range left {
			waitIs(t, d, peer, 10)
			leaves(t, d, peer, api.OK)
		}
		peersAre(t, d)
		suspects(t, d, lastTime)
		changes(t, d, lastTime)
	}
}

func TestLeaveOfWhatIsNotWatched(t *testing.T) {
	d := made(t, 10)
	for _, peer := range slices.Concat(peers, wrongPeers) {
		leaves(t, d, peer, api.ErrDetectNone)
	}
	watches(t, d, 3, 100, api.OK)
	for _, peer := range slices.Concat(peers, wrongPeers) {
		leaves(t, d, peer, api.ErrDetectNone)
		peersAre(t, d, 3)
	}
}

// Nothing of what was learned before is known of a node that is watched anew.
func TestLeaveAndWatchAnew(t *testing.T) {
	d := made(t, 10)
	watches(t, d, 3, 100, api.OK)
	watches(t, d, 4, 100, api.OK)
	for _, now := range []int64{150, 250, 450} {
		beats(t, d, 3, now, api.OK)
	}
	waitIs(t, d, 3, 120) // 326 eighths, and 80
	leaves(t, d, 3, api.OK)
	watches(t, d, 3, 200, api.OK)
	waitIs(t, d, 3, 10)
	suspects(t, d, 210, 4)
	suspects(t, d, 211, 3, 4)
	beats(t, d, 3, 208, api.OK)
	waitIs(t, d, 3, 11)
	// It may be watched from an earlier time on than before.
	leaves(t, d, 3, api.OK)
	watches(t, d, 3, 0, api.OK)
	suspects(t, d, 10)
	suspects(t, d, 11, 3)
}

func TestPeers(t *testing.T) {
	d := made(t, 10)
	peersAre(t, d)
	// In the order of the numbers, not of their digits, nor in that in which they came.
	for i, peer := range []int{100, 9, 255, 0, 20, 10, 2, 1, 11, 99, 200, 3} {
		watches(t, d, peer, int64(1000-i), api.OK)
	}
	for range 20 {
		peersAre(t, d, 0, 1, 2, 3, 9, 10, 11, 20, 99, 100, 200, 255)
	}
}

func TestPeersInAnyOrder(t *testing.T) {
	r := rand.New(rand.NewPCG(9, 1))
	for range 300 {
		some := r.Perm(lastPeer + 1)[:r.IntN(mostNodes+1)]
		d := made(t, 10)
		for _, peer := range some {
			watches(t, d, peer, 0, api.OK)
		}
		slices.Sort(some)
		peersAre(t, d, some...)
		suspects(t, d, 11, some...)
		var all []api.Change
		for _, peer := range some {
			all = append(all, bad(peer))
		}
		changes(t, d, 11, all...)
	}
}
