package faildet_test

import (
	"math"
	"slices"
	"testing"

	"tontine/api"
	"tontine/faildet"
)

// The calls, as the chapter lists them.
var (
	_ func(int64) (*faildet.Detector, api.Errno)      = faildet.New
	_ func(*faildet.Detector, int, int64) api.Errno   = (*faildet.Detector).Watch
	_ func(*faildet.Detector, int) api.Errno          = (*faildet.Detector).Leave
	_ func(*faildet.Detector, int, int64) api.Errno   = (*faildet.Detector).Beat
	_ func(*faildet.Detector, int) (int64, api.Errno) = (*faildet.Detector).Wait
	_ func(*faildet.Detector, int64) []int            = (*faildet.Detector).Suspects
	_ func(*faildet.Detector, int64) []api.Change     = (*faildet.Detector).Changes
	_ func(*faildet.Detector) []int                   = (*faildet.Detector).Peers
)

// Numbers of the chapter, written a second time.
const (
	mostNodes = 12
	leastWait = 4
	mostWait  = 4096
	lastPeer  = 255
	lastTime  = 1099511627776 // 2^40
)

var (
	guesses      = []int64{1, 2, 3, 4, 5, 10, 1000, 2047, 2048, 2049, 4095, 4096}
	wrongGuesses = []int64{math.MinInt64, -mostWait, -2, -1, 0, 4097, 4098, 8192, lastTime, 1 << 32, 1<<32 + 1, 1 << 62, math.MaxInt64}
	peers        = []int{0, 1, 2, 11, 12, 13, 127, 128, 253, 254, 255}
	wrongPeers   = []int{math.MinInt, -256, -255, -2, -1, 256, 257, 511, 512, 1 << 16, 1 << 31, 1<<32 + 1, math.MaxInt}
	times        = []int64{0, 1, 2, 4096, 1 << 31, 1 << 32, lastTime - 1, lastTime}
	wrongTimes   = []int64{math.MinInt64, math.MinInt64 + 1, -lastTime, -4096, -2, -1, lastTime + 1, lastTime + 2, 2 * lastTime, 1 << 62, math.MaxInt64}
)

func TestNumbersOfTheChapter(t *testing.T) {
	if api.ErrArg != 1 || api.ErrDetectFull != 91 || api.ErrDetectNone != 92 {
		t.Error("the errors' numbers")
	}
	if api.MaxNodes != mostNodes || api.MinWait != leastWait || api.MaxWait != mostWait || api.MaxTime != lastTime {
		t.Error("the limits")
	}
}

func TestRowsOfTheChapter(t *testing.T) {
	for _, guess := range []int64{0, 4097} {
		if d, e := faildet.New(guess); d != nil || e != api.ErrArg {
			t.Errorf("New(%d): %v, %d", guess, d, e)
		}
	}

	d := made(t, 10)
	watches(t, d, 3, 100, api.OK)
	suspects(t, d, 110)
	suspects(t, d, 111, 3)
	beats(t, d, 3, 111, api.OK)
	waitIs(t, d, 3, 21)

	changes(t, d, 111)
	changes(t, d, 140, bad(3))
	changes(t, d, 150)

	leaves(t, d, 4, api.ErrDetectNone)
	beats(t, d, 4, 0, api.ErrDetectNone)
	noWait(t, d, 4, api.ErrDetectNone)
}

func TestNew(t *testing.T) {
	for guess := int64(1); guess <= mostWait; guess++ {
		d := made(t, guess)
		peersAre(t, d)
		suspects(t, d, lastTime)
		changes(t, d, lastTime)
		watches(t, d, 7, 20, api.OK)
		// The guess is the margin, and the mean is 0.
		waitIs(t, d, 7, max(guess, 4))
		suspects(t, d, 20+max(guess, 4))
		suspects(t, d, 21+max(guess, 4), 7)
	}
}

func TestNewOfWhatMayNotBe(t *testing.T) {
	for _, guess := range wrongGuesses {
		if d, e := faildet.New(guess); d != nil || e != api.ErrArg {
			t.Errorf("New(%d): %v, %d", guess, d, e)
		}
	}
}

func TestNilDetector(t *testing.T) {
	var d *faildet.Detector
	for range 2 {
		for _, now := range slices.Concat(times, wrongTimes) {
			for _, peer := range slices.Concat(peers, wrongPeers) {
				watches(t, d, peer, now, api.ErrArg)
				beats(t, d, peer, now, api.ErrArg)
			}
			suspects(t, d, now)
			changes(t, d, now)
		}
		for _, peer := range slices.Concat(peers, wrongPeers) {
			leaves(t, d, peer, api.ErrArg)
			noWait(t, d, peer, api.ErrArg)
		}
		peersAre(t, d)
	}
}

// A Detector that New did not make has no guess that is promised, but it does not panic.
func TestZeroDetector(t *testing.T) {
	var d faildet.Detector
	leaves(t, &d, 1, api.ErrDetectNone)
	beats(t, &d, 1, 0, api.ErrDetectNone)
	noWait(t, &d, 1, api.ErrDetectNone)
	suspects(t, &d, 9)
	changes(t, &d, 9)
	peersAre(t, &d)
	d.Watch(1, 0)
	d.Beat(1, 100)
	d.Wait(1)
	d.Suspects(200)
	d.Changes(200)
	d.Peers()
	d.Leave(1)
}

// Two detectors know nothing of each other, though they watch the same nodes.
func TestDetectorsAreAlone(t *testing.T) {
	a, b := pairOf(t, 10), pairOf(t, 300)
	both := func(now int64) {
		t.Helper()
		a.looks(now)
		b.looks(now)
	}
	both(0)
	a.watch(3, 100)
	both(100)
	b.watch(3, 50)
	b.watch(4, 60)
	both(200)
	a.beat(3, 200)
	both(400)
	b.changes(400)
	both(400)
	a.changes(400)
	b.leave(3)
	both(500)
	b.watch(3, 1)
	b.changes(500)
	a.changes(500)
	both(600)
	a.leave(3)
	both(700)
}

func made(t *testing.T, guess int64) *faildet.Detector {
	t.Helper()
	d, e := faildet.New(guess)
	if d == nil || e != api.OK {
		t.Fatalf("New(%d): %v, %d", guess, d, e)
	}
	return d
}

// full watches so many nodes from 0 on: 0, 20, 40 and so on.
func full(t *testing.T, guess int64, n int) *faildet.Detector {
	t.Helper()
	d := made(t, guess)
	for i := range n {
		watches(t, d, 20*i, 0, api.OK)
	}
	return d
}

func watches(t *testing.T, d *faildet.Detector, peer int, now int64, want api.Errno) {
	t.Helper()
	if e := d.Watch(peer, now); e != want {
		t.Errorf("Watch(%d, %d): %d, want %d", peer, now, e, want)
	}
}

func leaves(t *testing.T, d *faildet.Detector, peer int, want api.Errno) {
	t.Helper()
	if e := d.Leave(peer); e != want {
		t.Errorf("Leave(%d): %d, want %d", peer, e, want)
	}
}

func beats(t *testing.T, d *faildet.Detector, peer int, now int64, want api.Errno) {
	t.Helper()
	if e := d.Beat(peer, now); e != want {
		t.Errorf("Beat(%d, %d): %d, want %d", peer, now, e, want)
	}
}

func waitIs(t *testing.T, d *faildet.Detector, peer int, want int64) {
	t.Helper()
	if got, e := d.Wait(peer); got != want || e != api.OK {
		t.Errorf("Wait(%d): %d, %d, want %d", peer, got, e, want)
	}
}

func noWait(t *testing.T, d *faildet.Detector, peer int, want api.Errno) {
	t.Helper()
	if got, e := d.Wait(peer); got != 0 || e != want {
		t.Errorf("Wait(%d): %d, %d, want %d", peer, got, e, want)
	}
}

func suspects(t *testing.T, d *faildet.Detector, now int64, want ...int) {
	t.Helper()
	if got := d.Suspects(now); !slices.Equal(got, want) {
		t.Errorf("Suspects(%d): %v, want %v", now, got, want)
	}
}

func changes(t *testing.T, d *faildet.Detector, now int64, want ...api.Change) {
	t.Helper()
	if got := d.Changes(now); !slices.Equal(got, want) {
		t.Errorf("Changes(%d): %v, want %v", now, got, want)
	}
}

func peersAre(t *testing.T, d *faildet.Detector, want ...int) {
	t.Helper()
	if got := d.Peers(); !slices.Equal(got, want) {
		t.Errorf("Peers: %v, want %v", got, want)
	}
}

func bad(peer int) api.Change { return api.Change{Peer: peer, Bad: true} }

func good(peer int) api.Change { return api.Change{Peer: peer} }
