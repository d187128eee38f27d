package lease_test

import (
	"math/big"
	"math/rand/v2"
	"testing"

	"tontine/lease"
)

const (
	term     = 1000
	takeTerm = 1225
)

// edges are times at which something might run over.
var edges = []uint64{
	0, 1, 2, 99, 100, 999, 1000, 1001, 1112, 1113, 1224, 1225, 1226, 2000, 1<<31 - 1, 1 << 31, 1<<32 - 1, 1 << 32, 1<<32 + 1, 1 << 40,
	1<<63 - 1225, 1<<63 - 1000, 1<<63 - 1, 1 << 63, 1<<63 + 1, 1<<63 + 1225,
	greatest - 2000, greatest - 1226, greatest - 1225, greatest - 1224, greatest - 1001, greatest - 1000, greatest - 999, greatest - 1, greatest,
}

// holds holds both against the chapter's sums, in integers of unlimited size.
func holds(t *testing.T, now, since uint64) {
	t.Helper()
	n, s := new(big.Int).SetUint64(now), new(big.Int).SetUint64(since)
	end := new(big.Int).Add(s, big.NewInt(term))
	if got, want := lease.Valid(now, since), n.Cmp(s) >= 0 && n.Cmp(end) < 0; got != want {
		t.Errorf("Valid(%d, %d): %t", now, since, got)
	}
	end = new(big.Int).Add(s, big.NewInt(takeTerm))
	if got, want := lease.MayTake(now, since), n.Cmp(end) >= 0; got != want {
		t.Errorf("MayTake(%d, %d): %t", now, since, got)
	}
}

func TestTimesAtTheEdges(t *testing.T) {
	for _, now := range edges {
		for _, since := range edges {
			holds(t, now, since)
			for _, d := range []uint64{0, 1, 999, 1000, 1001, 1224, 1225, 1226} {
				// Past the greatest number these wrap, which is a pair as any other.
				holds(t, since+d, since)
				holds(t, now, now+d)
			}
		}
	}
	g := rand.New(rand.NewPCG(144, 0))
	for range 20000 {
		now, since := g.Uint64()>>g.IntN(64), g.Uint64()>>g.IntN(64)
		holds(t, now, since)
		holds(t, since+g.Uint64N(1300), since)
	}
}

func TestValid(t *testing.T) {
	for _, c := range []struct {
		now, sent uint64
		want      bool
	}{
		{0, 0, true}, {1, 0, true}, {999, 0, true}, {1000, 0, false}, {1001, 0, false}, {greatest, 0, false},
		{4, 5, false}, {5, 5, true}, {6, 5, true}, {1004, 5, true}, {1005, 5, false}, {0, 5, false}, {0, 1, false},
		{greatest, greatest, true}, {greatest - 1, greatest, false}, {0, greatest, false}, {998, greatest, false}, {999, greatest, false}, {1225, greatest, false},
		{greatest, greatest - 998, true}, {greatest, greatest - 999, true}, {greatest, greatest - 1000, false}, {greatest, greatest - 1001, false},
		{greatest - 1, greatest - 1000, true}, {0, greatest - 999, false}, {0, greatest - 998, false},
	} {
		if got := lease.Valid(c.now, c.sent); got != c.want {
			t.Errorf("Valid(%d, %d): %t", c.now, c.sent, got)
		}
	}
}

func TestMayTake(t *testing.T) {
	for _, c := range []struct {
		now, learnt uint64
		want        bool
	}{
		{0, 0, false}, {1, 0, false}, {1000, 0, false}, {1224, 0, false}, {1225, 0, true}, {1226, 0, true}, {greatest, 0, true},
		{4, 5, false}, {5, 5, false}, {1229, 5, false}, {1230, 5, true}, {0, 5, false}, {0, 1, false},
		{greatest, greatest, false}, {greatest - 1, greatest, false}, {0, greatest, false}, {1223, greatest, false}, {1224, greatest, false}, {1225, greatest, false}, {1226, greatest, false},
		{greatest, greatest - 1224, false}, {greatest, greatest - 1225, true}, {greatest, greatest - 1226, true},
		{greatest - 1, greatest - 1225, false}, {greatest - 1, greatest - 1226, true}, {0, greatest - 1224, false}, {0, greatest - 1225, false},
	} {
		if got := lease.MayTake(c.now, c.learnt); got != c.want {
			t.Errorf("MayTake(%d, %d): %t", c.now, c.learnt, got)
		}
	}
}

// Each time near a first one, and the two never at once for one time.
func TestTimesOneByOne(t *testing.T) {
	for _, since := range []uint64{0, 1, 2, 1000, 1225, 5000, 1 << 40, 1 << 63, greatest - 3000} {
		for d := range uint64(3000) {
			if got := lease.Valid(since+d, since); got != (d < term) {
				t.Errorf("Valid(%d, %d): %t", since+d, since, got)
			}
			if got := lease.MayTake(since+d, since); got != (d >= takeTerm) {
				t.Errorf("MayTake(%d, %d): %t", since+d, since, got)
			}
			if d > 0 && d <= since && (lease.Valid(since-d, since) || lease.MayTake(since-d, since)) {
				t.Errorf("%d ahead of %d", d, since)
			}
		}
	}
}

// shows is the time of a clock of a rate.
func shows(g uint64, rate int) uint64 { return g * uint64(rate) / 1000 }

// lastValid is the last time at which a renewal that was requested at s is valid by its node's clock: none of those from there to the bound is.
func lastValid(t *testing.T, s uint64, rate int, bound uint64) uint64 {
	t.Helper()
	last, sent := s, shows(s, rate)
	for g := s; g <= s+bound; g++ {
		if lease.Valid(shows(g, rate), sent) {
			last = g
		}
	}
	return last
}

// firstTake is the first time at which who learned of a renewal at l may take the places by its clock.
func firstTake(l uint64, rate int, bound uint64) uint64 {
	learnt := shows(l, rate)
	for g := l; g <= l+bound; g++ {
		if lease.MayTake(shows(g, rate), learnt) {
			return g
		}
	}
	return l + bound
}

// P14.3 for each pair of rates: the rounding of a rate comes again after at most 1000 ticks.
func TestExclusion(t *testing.T) {
	const bound, times = 1400, 1000
	latest, soonest := make([]uint64, times), make([]uint64, times)
	for s := range uint64(times) {
		soonest[s] = s + bound
		for rate := 900; rate <= 1100; rate++ {
			// Valid and MayTake are asked one by one around the bounds; what lies between is looked at for fewer rates below.
			latest[s] = max(latest[s], validNear(s, rate))
			soonest[s] = min(soonest[s], takeNear(s, rate))
		}
	}
	for s := range uint64(times) {
		for l := s; l < times; l++ {
			if soonest[l] <= latest[s] {
				t.Fatalf("requested at %d, valid till %d, learnt at %d, taken at %d", s, latest[s], l, soonest[l])
			}
		}
	}
}

// validNear looks from about the term's end on.
func validNear(s uint64, rate int) uint64 {
	sent, last := shows(s, rate), s
	for g := s + 880; g <= s+1250; g++ {
		if lease.Valid(shows(g, rate), sent) {
			last = g
		}
	}
	return last
}

// takeNear looks up to about the term's end.
func takeNear(l uint64, rate int) uint64 {
	learnt := shows(l, rate)
	for g := l + 850; g <= l+1400; g++ {
		if lease.MayTake(shows(g, rate), learnt) {
			return g
		}
	}
	return l + 1400
}

// The same with every time from the request on, for the rates at the ends, the middle, and some between.
func TestExclusionAtAllTimes(t *testing.T) {
	rates := []int{900, 901, 903, 909, 950, 999, 1000, 1001, 1050, 1091, 1099, 1100}
	for _, base := range []uint64{0, 999, 12345, 1 << 31, 1<<40 - 30} {
		for s := base; s < base+30; s++ {
			for _, mine := range rates {
				last := lastValid(t, s, mine, 1500)
				for _, its := range rates {
					for _, l := range []uint64{s, s + 1, s + 7, s + 100, s + 1000} {
						if take := firstTake(l, its, 1500); take <= last {
							t.Fatalf("rates %d and %d: requested at %d, valid till %d, learnt at %d, taken at %d", mine, its, s, last, l, take)
						}
					}
				}
			}
		}
	}
}

// Times of the world that are no whole ticks: a clock shows the same, rounded down.
func TestExclusionBetweenTicks(t *testing.T) {
	const parts = 64
	for _, mine := range []uint64{900, 937, 1000, 1100} {
		for _, its := range []uint64{900, 1000, 1063, 1100} {
			for s := uint64(0); s < 12*parts; s += 5 {
				for l := s; l <= s+2*parts; l += 3 {
					for g := l + 1108*parts; g <= l+1116*parts; g += 3 {
						valid := lease.Valid(g*mine/1000/parts, s*mine/1000/parts)
						if valid && lease.MayTake(g*its/1000/parts, l*its/1000/parts) {
							t.Fatalf("rates %d and %d: requested at %d, learnt at %d, both at %d, in parts of %d", mine, its, s, l, g, parts)
						}
					}
				}
			}
		}
	}
}

// The clock that is slowest holds for 1112 ticks, the one that is fastest takes behind 1113: there is no more room than the terms leave.
func TestExclusionIsClose(t *testing.T) {
	for s := range uint64(2000) {
		if last := lastValid(t, s, 900, 1500); last < s+1109 || last > s+1111 {
			t.Fatalf("requested at %d, valid till %d", s, last)
		}
		if take := firstTake(s, 1100, 1500); take < s+1113 || take > s+1114 {
			t.Fatalf("learnt at %d, taken at %d", s, take)
		}
	}
}

func FuzzTimes(f *testing.F) {
	f.Add(uint64(0), uint64(0), uint64(1112), 900, 1100)
	f.Add(uint64(9), uint64(10), uint64(1113), 901, 1099)
	f.Fuzz(func(t *testing.T, s, later, past uint64, mine, its int) {
		holds(t, s, later)
		holds(t, s+past, s)
		// Below 2^40 no clock runs over.
		s, later, past = s>>24, later>>40, past%2000
		mine, its = 900+int(uint(mine)%201), 900+int(uint(its)%201)
		l := s + later
		g := l + past
		if lease.Valid(shows(g, mine), shows(s, mine)) && lease.MayTake(shows(g, its), shows(l, its)) {
			t.Errorf("rates %d and %d: requested at %d, learnt at %d, both at %d", mine, its, s, l, g)
		}
	})
}
