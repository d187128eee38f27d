package clock_test

import (
	"math/rand/v2"
	"slices"
	"testing"

	"tontine/api"
)

// within holds what a clock has advanced against n ticks of real time, a tenth more or less, with an error of less than 1.
func within(t *testing.T, advanced, n int64) {
	t.Helper()
	if 1000*advanced <= 900*n-1000 || 1000*advanced >= 1100*n+1000 {
		t.Errorf("in %d ticks the time advances by %d", n, advanced)
	}
}

func TestTimeKeepsWithinTheDrift(t *testing.T) {
	r := rand.New(rand.NewPCG(6, 3))
	for range 300 {
		start := r.Int64N(1000)
		c := made(t, 900+r.IntN(201), start)
		most := []int64{2, 20, 3000, 1 << 30}[r.IntN(4)]
		// The times from which on is measured, and the ticks that had gone by then.
		times, ticks := []int64{start}, []int64{0}
		n, was := int64(0), start
		for range 100 {
			if r.IntN(3) == 0 {
				fails(t, "Turn", c.Turn([]int{900, 1100, 900 + r.IntN(201)}[r.IntN(3)]), api.OK)
			}
			more := r.Int64N(most)
			fails(t, "Pass", c.Pass(more), api.OK)
			n += more
			now := c.Now()
			if now < was {
				t.Fatalf("the time goes from %d to %d", was, now)
			}
			was = now
			for i := range times {
				within(t, now-times[i], n-ticks[i])
			}
			times, ticks = append(times, now), append(ticks, n)
		}
	}
}

// The slowest and the fastest clock keep to the ends of the drift.
func TestTimeAtTheEndsOfTheDrift(t *testing.T) {
	slow, fast := made(t, 900, 0), made(t, 1100, 0)
	for n := int64(1); n <= 5000; n++ {
		fails(t, "Pass(1)", slow.Pass(1), api.OK)
		fails(t, "Pass(1)", fast.Pass(1), api.OK)
		stands(t, slow, n*900/1000)
		stands(t, fast, n*1100/1000)
	}
}

func TestRefusalsDoNotMoveTheTime(t *testing.T) {
	c := made(t, 950, lastTime-5)
	was := c.Now()
	for _, n := range []int64{1, 7, 2, -3, 6, 1, 1, 1, 9, 1} {
		e := c.Pass(n)
		now := c.Now()
		if now < was || e != api.OK && now != was {
			t.Errorf("Pass(%d): %d, and the time goes from %d to %d", n, e, was, now)
		}
		was = now
	}
}

// Each timer that is let be is told once, by the first Due at or after its time.
func TestTimersAreToldOnce(t *testing.T) {
	r := rand.New(rand.NewPCG(6, 4))
	for range 200 {
		c := made(t, 900+r.IntN(201), 0)
		due := map[uint64]int64{}
		told := map[uint64]bool{}
		asked := int64(-1)
		for id := range uint64(600) {
			if c.Count() < mostSet {
				due[id] = c.Now() + r.Int64N(40)
				fails(t, "Set", c.Set(id, due[id]), api.OK)
			}
			fails(t, "Pass", c.Pass(r.Int64N(4)), api.OK)
			if r.IntN(3) > 0 {
				continue
			}
			now := c.Now()
			for _, is := range c.Due() {
				if told[is] || due[is] > now {
					t.Fatalf("%d, due at %d, is told at %d; told before: %t", is, due[is], now, told[is])
				}
				told[is] = true
			}
			for id, at := range due {
				if at <= now && !told[id] {
					t.Fatalf("%d, due at %d, is not told at %d", id, at, now)
				}
			}
			if now < asked {
				t.Fatalf("the time goes from %d to %d", asked, now)
			}
			asked = now
		}
		if c.Count() != len(due)-len(told) {
			t.Fatalf("Count: %d, of %d set and %d told", c.Count(), len(due), len(told))
		}
	}
}

// However often Due is called, all that it tells is the same, in the same order.
func TestDueOftenTellsTheSame(t *testing.T) {
	r := rand.New(rand.NewPCG(6, 5))
	for range 100 {
		often, once := made(t, 1000, 0), made(t, 1000, 0)
		for id := range uint64(200) {
			at := 1 + r.Int64N(50)
			fails(t, "Set", often.Set(id, at), api.OK)
			fails(t, "Set", once.Set(id, at), api.OK)
		}
		var parts []uint64
		for range 50 {
			fails(t, "Pass(1)", often.Pass(1), api.OK)
			parts = append(parts, often.Due()...)
		}
		fails(t, "Pass(50)", once.Pass(50), api.OK)
		if whole := once.Due(); len(whole) != 200 || !slices.Equal(parts, whole) {
			t.Errorf("Due: %v, want %v", parts, whole)
		}
	}
}
