package faildet_test

import (
	"math"
	"slices"
	"testing"

	"tontine/api"
	"tontine/faildet"
)

// watched is a node as the model has it: since when, and at which times it was heard. What was learned is worked out anew each time.
type watched struct {
	since float64
	heard []float64
	told  bool
}

// learned is the chapter's words a second time, in numbers with fractions.
func (w *watched) learned(guess float64) (last, wait float64, wrong int) {
	mean, margin := 0.0, guess
	last = w.since
	for _, now := range w.heard {
		if now < last {
			now = last
		}
		x := now - last
		if x > waitOf(mean, margin) {
			wrong++
			margin *= 2
			if margin > mostWait {
				margin = mostWait
			}
		}
		if x > mostWait {
			x = mostWait
		}
		growth := x - math.Floor(mean/8)
		mean += growth
		last = now
	}
	return last, waitOf(mean, margin), wrong
}

func waitOf(mean, margin float64) float64 {
	wait := math.Floor(mean/8) + margin
	if wait < leastWait {
		return leastWait
	}
	if wait > mostWait {
		return mostWait
	}
	return wait
}

func (w *watched) suspected(guess, now float64) bool {
	last, wait, _ := w.learned(guess)
	return now-last > wait
}

// model has a place for each node that there may be.
type model struct {
	guess float64
	nodes [lastPeer + 1]*watched
}

func isTime(now int64) bool { return now >= 0 && now <= lastTime }

func (m *model) find(peer int) *watched {
	if peer < 0 || peer > lastPeer {
		return nil
	}
	return m.nodes[peer]
}

func (m *model) watch(peer int, now int64) api.Errno {
	if peer < 0 || peer > lastPeer || !isTime(now) {
		return api.ErrArg
	}
	if m.nodes[peer] != nil {
		return api.OK
	}
	if len(m.peers()) == mostNodes {
		return api.ErrDetectFull
	}
	m.nodes[peer] = &watched{since: float64(now)}
	return api.OK
}

func (m *model) leave(peer int) api.Errno {
	if m.find(peer) == nil {
		return api.ErrDetectNone
	}
	m.nodes[peer] = nil
	return api.OK
}

func (m *model) beat(peer int, now int64) api.Errno {
	w := m.find(peer)
	if w == nil {
		return api.ErrDetectNone
	}
	if !isTime(now) {
		return api.ErrArg
	}
	w.heard = append(w.heard, float64(now))
	return api.OK
}

func (m *model) wait(peer int) (int64, api.Errno) {
	w := m.find(peer)
	if w == nil {
		return 0, api.ErrDetectNone
	}
	_, wait, _ := w.learned(m.guess)
	return int64(wait), api.OK
}

func (m *model) suspects(now int64) []int {
	var list []int
	for peer, w := range m.nodes {
		if isTime(now) && w != nil && w.suspected(m.guess, float64(now)) {
			list = append(list, peer)
		}
	}
	return list
}

func (m *model) changes(now int64) []api.Change {
	var list []api.Change
	for peer, w := range m.nodes {
		if !isTime(now) || w == nil {
			continue
		}
		is := w.suspected(m.guess, float64(now))
		if is != w.told {
			list = append(list, api.Change{Peer: peer, Bad: is})
		}
		w.told = is
	}
	return list
}

func (m *model) peers() []int {
	var list []int
	for peer, w := range m.nodes {
		if w != nil {
			list = append(list, peer)
		}
	}
	return list
}

// pair is a detector and its model, which get the same and must answer the same.
type pair struct {
	t *testing.T
	d *faildet.Detector
	m *model
}

func pairOf(t *testing.T, guess int64) *pair {
	t.Helper()
	return &pair{t, made(t, guess), &model{guess: float64(guess)}}
}

func (p *pair) watch(peer int, now int64) {
	p.t.Helper()
	if got, want := p.d.Watch(peer, now), p.m.watch(peer, now); got != want {
		p.t.Fatalf("Watch(%d, %d): %d, want %d", peer, now, got, want)
	}
	p.clear(peer, now)
}

func (p *pair) leave(peer int) {
	p.t.Helper()
	if got, want := p.d.Leave(peer), p.m.leave(peer); got != want {
		p.t.Fatalf("Leave(%d): %d, want %d", peer, got, want)
	}
}

func (p *pair) beat(peer int, now int64) {
	p.t.Helper()
	got, want := p.d.Beat(peer, now), p.m.beat(peer, now)
	if got != want {
		p.t.Fatalf("Beat(%d, %d): %d, want %d", peer, now, got, want)
	}
	if got == api.OK {
		p.clear(peer, now)
	}
}

// clear holds that a node is not suspected when it was heard, whether at now or at a later time before.
func (p *pair) clear(peer int, now int64) {
	p.t.Helper()
	w := p.m.find(peer)
	if w == nil || !isTime(now) {
		return
	}
	last, _, _ := w.learned(p.m.guess)
	for _, at := range []int64{0, min(now, int64(last)), int64(last), int64(last) + leastWait} {
		if slices.Contains(p.d.Suspects(at), peer) {
			p.t.Fatalf("%d, heard at %d, is suspected at %d", peer, int64(last), at)
		}
	}
}

func (p *pair) wait(peer int) {
	p.t.Helper()
	got, e := p.d.Wait(peer)
	want, wantE := p.m.wait(peer)
	if got != want || e != wantE {
		p.t.Fatalf("Wait(%d): %d, %d, want %d, %d", peer, got, e, want, wantE)
	}
	if e == api.OK && (got < leastWait || got > mostWait) {
		p.t.Fatalf("Wait(%d): %d", peer, got)
	}
}

func (p *pair) suspects(now int64) {
	p.t.Helper()
	got, want := p.d.Suspects(now), p.m.suspects(now)
	if !slices.Equal(got, want) {
		p.t.Fatalf("Suspects(%d): %v, want %v", now, got, want)
	}
	scribble(got)
}

func (p *pair) changes(now int64) {
	p.t.Helper()
	got, want := p.d.Changes(now), p.m.changes(now)
	if !slices.Equal(got, want) {
		p.t.Fatalf("Changes(%d): %v, want %v", now, got, want)
	}
	smear(got)
}

// looks asks for all that can be asked without a change: of each node, also a tick before and behind it would be suspected.
func (p *pair) looks(now int64) {
	p.t.Helper()
	p.suspects(now)
	want := p.m.peers()
	got := p.d.Peers()
	if !slices.Equal(got, want) {
		p.t.Fatalf("Peers: %v, want %v", got, want)
	}
	scribble(got)
	for _, peer := range want {
		p.wait(peer)
		last, wait, _ := p.m.nodes[peer].learned(p.m.guess)
		for x := int64(-1); x <= 1; x++ {
			p.suspects(int64(last+wait) + x)
		}
	}
}
