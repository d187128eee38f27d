package faildet_test

import (
	"slices"
	"testing"

	"tontine/api"
	"tontine/faildet"
)

// rhythm beats again and again behind silences, and holds the wait behind each beat.
func rhythm(t *testing.T, guess int64, rows ...[2]int64) {
	t.Helper()
	d := made(t, guess)
	now := int64(100)
	watches(t, d, 3, now, api.OK)
	for _, row := range rows {
		now += row[0]
		beats(t, d, 3, now, api.OK)
		suspects(t, d, now)
		waitIs(t, d, 3, row[1])
		suspects(t, d, now+row[1])
		suspects(t, d, now+row[1]+1, 3)
	}
}

// The means below are in eighths.
func TestMean(t *testing.T) {
	// 8 eighths are a tick, and less is none.
	rhythm(t, 10, [2]int64{7, 10})
	rhythm(t, 10, [2]int64{8, 11})
	// 9, 9 + 7 - 1 = 15, 15 + 2 - 1 = 16.
	rhythm(t, 10, [2]int64{9, 11}, [2]int64{7, 11}, [2]int64{2, 12})
	// 16, 16 + 16 - 2 = 30, 30 + 16 - 3 = 43, 43 + 16 - 5 = 54: an eighth of the mean, not of the silence.
	rhythm(t, 100, [2]int64{16, 102}, [2]int64{16, 103}, [2]int64{16, 105}, [2]int64{16, 106})
	// 80, 70, 62, 55, 49, 43, 38, 34, 30, 27, 24, 21, 19, 17, 15, 14: the growth may be negative.
	rhythm(t, 100, [2]int64{80, 110}, [2]int64{0, 108}, [2]int64{0, 107}, [2]int64{0, 106}, [2]int64{0, 106}, [2]int64{0, 105}, [2]int64{0, 104}, [2]int64{0, 104}, [2]int64{0, 103}, [2]int64{0, 103}, [2]int64{0, 103}, [2]int64{0, 102}, [2]int64{0, 102}, [2]int64{0, 102}, [2]int64{0, 101}, [2]int64{0, 101})
}

// 7 eighths are less than a tick, of which nothing is taken off: a mean of 8 goes down to 7, and stays there.
func TestMeanOfBeatsAtOneTime(t *testing.T) {
	d := made(t, 10)
	watches(t, d, 3, 0, api.OK)
	beats(t, d, 3, 8, api.OK)
	waitIs(t, d, 3, 11)
	for range 100 {
		beats(t, d, 3, 8, api.OK)
		waitIs(t, d, 3, 10)
	}
	beats(t, d, 3, 9, api.OK)
	waitIs(t, d, 3, 11)
}

// A node that beats regularly has a mean of as many ticks in the end.
func TestMeanOfARegularNode(t *testing.T) {
	for _, x := range []int64{0, 1, 2, 5, 8, 50, 100} {
		d := made(t, 100)
		watches(t, d, 3, 0, api.OK)
		for i := range int64(200) {
			beats(t, d, 3, (i+1)*x, api.OK)
		}
		waitIs(t, d, 3, 100+x)
	}
}

// behind is the wait of a node that was heard behind a silence, and once more 7 ticks later, which tells the eighths about 4096 apart.
func behind(t *testing.T, silence int64) int64 {
	t.Helper()
	d := made(t, 1)
	watches(t, d, 3, 0, api.OK)
	beats(t, d, 3, silence, api.OK)
	beats(t, d, 3, silence+7, api.OK)
	wait, e := d.Wait(3)
	if e != api.OK {
		t.Fatal(e)
	}
	return wait
}

func TestSilenceCountsAtMost4096(t *testing.T) {
	// 4095 + 7 - 511 = 3591 and 4096 + 7 - 512 = 3591, but 4097 + 7 - 512 would be 3592, which is 449 ticks.
	for _, x := range []int64{4095, 4096, 4097, 4098, 4103, 4104, 8192, 1 << 20, 1 << 39, lastTime - 7} {
		if got := behind(t, x); got != 448+2 {
			t.Errorf("behind a silence of %d: a wait of %d, want %d", x, got, 448+2)
		}
	}
	rhythm(t, 10, [2]int64{4095, 511 + 20})
	rhythm(t, 10, [2]int64{4096, 512 + 20})
	rhythm(t, 10, [2]int64{4097, 512 + 20})
	rhythm(t, 10, [2]int64{4104, 512 + 20})
	rhythm(t, 10, [2]int64{1 << 31, 512 + 20}, [2]int64{1 << 32, 960 + 40})
}

// The margin is doubled only if the node is suspected when it is heard.
func TestMargin(t *testing.T) {
	rhythm(t, 10, [2]int64{10, 11})
	rhythm(t, 10, [2]int64{11, 21})
	// 21 ticks are not suspicious any more: 11 + 21 - 1 = 31, 31 + 23 - 3 = 51.
	rhythm(t, 10, [2]int64{11, 21}, [2]int64{21, 23}, [2]int64{23, 26})
	// 22 are: 11 + 22 - 1 = 32, 32 + 44 - 4 = 72, 72 + 50 - 9 = 113, and margins of 40, 40 and 80.
	rhythm(t, 10, [2]int64{11, 21}, [2]int64{22, 44}, [2]int64{44, 49}, [2]int64{50, 94})
	// A margin of 1 is doubled though the wait is 4 all the same.
	rhythm(t, 1, [2]int64{4, 4}, [2]int64{0, 4}, [2]int64{5, 4}, [2]int64{5, 5})
}

// The mean is brought below a tick each time, so that the wait is the margin. Without its bound, 100 doublings of it would not fit 64 bits.
func TestMarginDoublesUpToItsBound(t *testing.T) {
	for _, guess := range slices.Concat(guesses, []int64{3000, 4000}) {
		d := made(t, guess)
		now, margin := int64(0), guess
		watches(t, d, 3, now, api.OK)
		for range 100 {
			quiet(t, d, now)
			wait := max(margin, leastWait)
			waitIs(t, d, 3, wait)
			now += wait + 1
			suspects(t, d, now-1)
			suspects(t, d, now, 3)
			beats(t, d, 3, now, api.OK)
			margin = min(2*margin, mostWait)
		}
		waitIs(t, d, 3, mostWait)
	}
}

// quiet brings the mean of node 3 below a tick, by many beats at one time.
func quiet(t *testing.T, d *faildet.Detector, now int64) {
	t.Helper()
	for range 80 {
		beats(t, d, 3, now, api.OK)
	}
}

func TestWaitAtItsBounds(t *testing.T) {
	for _, g := range [][2]int64{{1, 4}, {2, 4}, {3, 4}, {4, 4}, {5, 5}, {6, 6}, {4094, 4094}, {4095, 4095}, {4096, 4096}} {
		d := made(t, g[0])
		watches(t, d, 3, 50, api.OK)
		waitIs(t, d, 3, g[1])
		suspects(t, d, 50+g[1])
		suspects(t, d, 50+g[1]+1, 3)
	}
	// 4 is the least one, also with a mean: 2 ticks of it and a margin of 2 are not more.
	d := made(t, 2)
	watches(t, d, 3, 0, api.OK)
	for i := range int64(20) {
		beats(t, d, 3, 3*i+3, api.OK)
		// 3, 6, 9, 11, 13, 15, 17, 18 and so on: the 14th time it is 24 eighths.
		wait := int64(4)
		if i >= 13 {
			wait = 5
		}
		waitIs(t, d, 3, wait)
	}
	// 4096 is the greatest one, and not more with a mean.
	rhythm(t, 4095, [2]int64{7, 4095}, [2]int64{8, 4096}, [2]int64{80, 4096})
	rhythm(t, 4096, [2]int64{4096, 4096}, [2]int64{4096, 4096}, [2]int64{4097, 4096}, [2]int64{0, 4096})
	rhythm(t, 3000, [2]int64{3000, 3375}, [2]int64{3000, 3703}, [2]int64{3000, 3990}, [2]int64{3000, 4096}, [2]int64{4096, 4096})
}

// At a wait of 4096, a silence of 4097 is suspicious, though it counts as 4096.
func TestSilenceBeyondTheGreatestWait(t *testing.T) {
	d := made(t, 4096)
	watches(t, d, 3, 0, api.OK)
	suspects(t, d, 4096)
	suspects(t, d, 4097, 3)
	suspects(t, d, lastTime, 3)
	beats(t, d, 3, 4097, api.OK)
	suspects(t, d, 4097+4096)
	suspects(t, d, 4097+4097, 3)
}

// A beat at an earlier time is one at the time when the node was heard last.
func TestBeatAtAnEarlierTime(t *testing.T) {
	for _, now := range []int64{0, 1, 50, 99, 100} {
		d := made(t, 10)
		watches(t, d, 3, 100, api.OK)
		beats(t, d, 3, now, api.OK)
		waitIs(t, d, 3, 10)
		suspects(t, d, 110)
		suspects(t, d, 111, 3)
		beats(t, d, 3, 108, api.OK)
		waitIs(t, d, 3, 11)
		beats(t, d, 3, now, api.OK)
		waitIs(t, d, 3, 10)
		suspects(t, d, 118)
		suspects(t, d, 119, 3)
	}
}

func TestBeatAtTheEnds(t *testing.T) {
	d := made(t, 10)
	watches(t, d, 3, 0, api.OK)
	beats(t, d, 3, 0, api.OK)
	waitIs(t, d, 3, 10)
	beats(t, d, 3, lastTime-1, api.OK)
	waitIs(t, d, 3, 532)
	beats(t, d, 3, lastTime, api.OK)
	waitIs(t, d, 3, 468)
	suspects(t, d, lastTime)
	beats(t, d, 3, 0, api.OK)
	suspects(t, d, lastTime)
	suspects(t, d, 0)
}

func TestBeatOfWhatMayNotBe(t *testing.T) {
	d := made(t, 10)
	watches(t, d, 3, 100, api.OK)
	watches(t, d, 5, 100, api.OK)
	for _, now := range wrongTimes {
		beats(t, d, 3, now, api.ErrArg)
		waitIs(t, d, 3, 10)
		suspects(t, d, 110)
		suspects(t, d, 111, 3, 5)
	}
	for _, peer := range slices.Concat(peers, wrongPeers) {
		for _, now := range slices.Concat(times, wrongTimes) {
			beats(t, d, peer, now, api.ErrDetectNone)
		}
		noWait(t, d, peer, api.ErrDetectNone)
		peersAre(t, d, 3, 5)
		suspects(t, d, 111, 3, 5)
	}
}

// A beat is of one node alone.
func TestBeatOfOneOfMany(t *testing.T) {
	d := full(t, 10, 12)
	beats(t, d, 60, 11, api.OK)
	for i := range 12 {
		if i == 3 {
			waitIs(t, d, 60, 21)
		} else {
			waitIs(t, d, 20*i, 10)
		}
	}
	suspects(t, d, 11, 0, 20, 40, 80, 100, 120, 140, 160, 180, 200, 220)
	suspects(t, d, 32, 0, 20, 40, 80, 100, 120, 140, 160, 180, 200, 220)
	suspects(t, d, 33, 0, 20, 40, 60, 80, 100, 120, 140, 160, 180, 200, 220)
}
