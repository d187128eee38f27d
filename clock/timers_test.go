package clock_test

import (
	"math"
	"math/rand/v2"
	"slices"
	"testing"

	"tontine/api"
	"tontine/clock"
)

// clockAt is a clock of the rate 1000 at a time, with some timers set in their order.
func clockAt(t *testing.T, at int64, l ...waiting) *clock.Clock {
	t.Helper()
	c := made(t, 1000, at)
	for _, w := range l {
		fails(t, "Set", c.Set(w.id, w.due), api.OK)
	}
	return c
}

func TestSetAtTheEdges(t *testing.T) {
	for _, now := range []int64{0, 1, 1000, lastTime - 1, lastTime} {
		for _, due := range []int64{math.MinInt64, -1, 0, 1, now - 1, now, now + 1, lastTime - 1, lastTime, lastTime + 1, math.MaxInt64} {
			c := clockAt(t, now)
			if due < 0 || due > lastTime {
				fails(t, "Set", c.Set(4, due), api.ErrArg)
				holds(t, c, 0, 0)
				tells(t, c)
				continue
			}
			fails(t, "Set", c.Set(4, due), api.OK)
			holds(t, c, 1, due)
			if due > now {
				tells(t, c)
				holds(t, c, 1, due)
				fails(t, "Pass to just before", c.Pass(due-now-1), api.OK)
				tells(t, c)
				fails(t, "Pass(1)", c.Pass(1), api.OK)
			}
			tells(t, c, 4)
			tells(t, c)
			holds(t, c, 0, 0)
		}
	}
}

// A timer is due by the time, of which the thousandths are no part.
func TestDueWithinATime(t *testing.T) {
	c := made(t, 999, 0)
	fails(t, "Set", c.Set(4, 1), api.OK)
	fails(t, "Pass(1)", c.Pass(1), api.OK)
	tells(t, c)
	fails(t, "Pass(1)", c.Pass(1), api.OK)
	tells(t, c, 4)
	fails(t, "Set", c.Set(5, 2), api.OK)
	tells(t, c)
	fails(t, "Set", c.Set(6, 1), api.OK)
	tells(t, c, 6)
	holds(t, c, 1, 2)
}

func TestNumbersOfTimers(t *testing.T) {
	ids := []uint64{0, 1, 1 << 31, 1 << 32, 1<<32 + 1, 1<<63 - 1, 1 << 63, math.MaxUint64 - 1, math.MaxUint64}
	c := clockAt(t, 9)
	for i, id := range ids {
		fails(t, "Set", c.Set(id, 7), api.OK)
		holds(t, c, i+1, 7)
	}
	tells(t, c, ids...)
	holds(t, c, 0, 0)
}

func TestSetAgain(t *testing.T) {
	before := []waiting{{1, 10}, {2, 20}, {3, 20}, {4, 30}}
	for _, c := range []struct {
		set  waiting
		want []uint64
	}{
		{waiting{2, 5}, []uint64{2, 1, 3, 4}},
		{waiting{2, 10}, []uint64{1, 2, 3, 4}},
		{waiting{2, 19}, []uint64{1, 2, 3, 4}},
		{waiting{2, 20}, []uint64{1, 3, 2, 4}},
		{waiting{3, 20}, []uint64{1, 2, 3, 4}},
		{waiting{2, 30}, []uint64{1, 3, 4, 2}},
		{waiting{2, 31}, []uint64{1, 3, 4, 2}},
		{waiting{1, 9}, []uint64{1, 2, 3, 4}},
		{waiting{1, 10}, []uint64{1, 2, 3, 4}},
		{waiting{1, 20}, []uint64{2, 3, 1, 4}},
		{waiting{1, 40}, []uint64{2, 3, 4, 1}},
		{waiting{4, 0}, []uint64{4, 1, 2, 3}},
		{waiting{4, 10}, []uint64{1, 4, 2, 3}},
		{waiting{4, 20}, []uint64{1, 2, 3, 4}},
		{waiting{4, 50}, []uint64{1, 2, 3, 4}},
		{waiting{5, 20}, []uint64{1, 2, 3, 5, 4}},
	} {
		k := clockAt(t, 50, before...)
		fails(t, "Set", k.Set(c.set.id, c.set.due), api.OK)
		tells(t, k, c.want...)
	}
}

// What is set again is due at its new time alone.
func TestSetAgainForgetsTheTimeBefore(t *testing.T) {
	c := clockAt(t, 0, waiting{1, 10}, waiting{1, 20})
	holds(t, c, 1, 20)
	fails(t, "Pass(10)", c.Pass(10), api.OK)
	tells(t, c)
	fails(t, "Set", c.Set(1, 15), api.OK)
	holds(t, c, 1, 15)
	fails(t, "Pass(4)", c.Pass(4), api.OK)
	tells(t, c)
	fails(t, "Pass(1)", c.Pass(1), api.OK)
	tells(t, c, 1)
	fails(t, "Pass(10)", c.Pass(10), api.OK)
	tells(t, c)
	// A number that was told may be set again.
	fails(t, "Set", c.Set(1, 15), api.OK)
	tells(t, c, 1)
}

func TestRefusedSetLeavesTheTimer(t *testing.T) {
	for _, due := range wrongTimes {
		c := clockAt(t, 30, waiting{1, 20}, waiting{2, 20})
		fails(t, "Set", c.Set(1, due), api.ErrArg)
		holds(t, c, 2, 20)
		tells(t, c, 1, 2)
	}
}

// full is a clock with so many timers, numbered from 0 on, all due at 5.
func full(t *testing.T, n int) *clock.Clock {
	t.Helper()
	c := clockAt(t, 5)
	for id := range uint64(n) {
		fails(t, "Set", c.Set(id, 5), api.OK)
	}
	return c
}

func numbers(from, to uint64) []uint64 {
	var l []uint64
	for id := from; id < to; id++ {
		l = append(l, id)
	}
	return l
}

func TestMostTimers(t *testing.T) {
	c := full(t, 255)
	fails(t, "Set of the last", c.Set(255, 5), api.OK)
	holds(t, c, 256, 5)
	for _, due := range []int64{0, 5, 6, lastTime} {
		fails(t, "Set of one too many", c.Set(256, due), api.ErrClockFull)
		fails(t, "Set of one too many", c.Set(math.MaxUint64, due), api.ErrClockFull)
		holds(t, c, 256, 5)
	}
	// A time that may not be is told ahead of the number of timers.
	for _, due := range wrongTimes {
		fails(t, "Set", c.Set(256, due), api.ErrArg)
		fails(t, "Set", c.Set(255, due), api.ErrArg)
	}
	tells(t, c, numbers(0, 256)...)
	holds(t, c, 0, 0)
	fails(t, "Set", c.Set(256, 5), api.OK)
}

func TestMostTimersSetAgain(t *testing.T) {
	for _, n := range []int{1, 2, 255, 256} {
		for _, due := range []int64{4, 5, 6} {
			c := full(t, n)
			fails(t, "Set again", c.Set(0, due), api.OK)
			want := numbers(1, uint64(n))
			switch due {
			case 4:
				want = slices.Insert(want, 0, 0)
			case 5:
				want = append(want, 0)
			}
			if n == mostSet {
				fails(t, "Set of one too many", c.Set(256, due), api.ErrClockFull)
			}
			tells(t, c, want...)
			if due == 6 {
				holds(t, c, 1, 6)
			} else {
				holds(t, c, 0, 0)
			}
		}
	}
}

func TestMostTimersLessOne(t *testing.T) {
	c := full(t, 256)
	if !c.Stop(100) {
		t.Error("Stop(100)")
	}
	fails(t, "Set", c.Set(256, 5), api.OK)
	fails(t, "Set", c.Set(100, 5), api.ErrClockFull)
	fails(t, "Set", c.Set(101, 6), api.OK)
	want := slices.DeleteFunc(numbers(0, 257), func(id uint64) bool { return id == 100 || id == 101 })
	tells(t, c, want...)
	holds(t, c, 1, 6)
	for id := range uint64(255) {
		fails(t, "Set", c.Set(1000+id, 6), api.OK)
	}
	fails(t, "Set", c.Set(100, 6), api.ErrClockFull)
}

func TestStop(t *testing.T) {
	c := clockAt(t, 0, waiting{1, 3}, waiting{2, 2}, waiting{3, 3})
	for _, s := range []struct {
		id    uint64
		was   bool
		count int
		least int64
	}{
		{0, false, 3, 2},
		{4, false, 3, 2},
		{2, true, 2, 3},
		{2, false, 2, 3},
		{1, true, 1, 3},
		{1, false, 1, 3},
		{3, true, 0, 0},
		{3, false, 0, 0},
	} {
		if got := c.Stop(s.id); got != s.was {
			t.Errorf("Stop(%d): %t", s.id, got)
		}
		holds(t, c, s.count, s.least)
	}
	fails(t, "Pass(9)", c.Pass(9), api.OK)
	tells(t, c)
}

func TestStopOfWhatWasTold(t *testing.T) {
	c := clockAt(t, 4, waiting{1, 3}, waiting{2, 5})
	tells(t, c, 1)
	if c.Stop(1) {
		t.Error("Stop of a timer that was told")
	}
	holds(t, c, 1, 5)
	if !c.Stop(2) {
		t.Error("Stop of a timer that waits")
	}
	holds(t, c, 0, 0)
}

// What is stopped and set again counts as set then.
func TestStopAndSetAgain(t *testing.T) {
	c := clockAt(t, 3, waiting{1, 3}, waiting{2, 3}, waiting{3, 3})
	if !c.Stop(1) {
		t.Error("Stop(1)")
	}
	fails(t, "Set", c.Set(1, 3), api.OK)
	tells(t, c, 2, 3, 1)
}

func TestDueNoneOneAll(t *testing.T) {
	l := []waiting{{10, 7}, {11, 5}, {12, 9}, {13, 6}, {14, 8}}
	for _, c := range []struct {
		now  int64
		want []uint64
	}{
		{4, nil},
		{5, []uint64{11}},
		{6, []uint64{11, 13}},
		{8, []uint64{11, 13, 10, 14}},
		{9, []uint64{11, 13, 10, 14, 12}},
		{lastTime, []uint64{11, 13, 10, 14, 12}},
	} {
		k := clockAt(t, 0, l...)
		fails(t, "Pass", k.Pass(c.now), api.OK)
		tells(t, k, c.want...)
		tells(t, k)
		holds(t, k, 5-len(c.want), 5+int64(len(c.want)))
		stands(t, k, c.now)
	}
	tells(t, clockAt(t, 0))
	tells(t, clockAt(t, lastTime))
}

func TestDueBehindStop(t *testing.T) {
	for _, stopped := range []uint64{1, 2, 3, 4, 5, 6, 7} {
		c := clockAt(t, 9, waiting{1, 1}, waiting{2, 8}, waiting{3, 2}, waiting{4, 9}, waiting{5, 8}, waiting{6, 3}, waiting{7, 2})
		if !c.Stop(stopped) {
			t.Errorf("Stop(%d)", stopped)
		}
		want := slices.DeleteFunc([]uint64{1, 3, 7, 6, 2, 5, 4}, func(id uint64) bool { return id == stopped })
		tells(t, c, want...)
	}
}

func TestNextIsTheLeast(t *testing.T) {
	c := clockAt(t, 0)
	holds(t, c, 0, 0)
	for i, due := range []int64{50, 60, 40, 0, lastTime, 1} {
		fails(t, "Set", c.Set(uint64(i), due), api.OK)
		holds(t, c, i+1, []int64{50, 50, 40, 0, 0, 0}[i])
	}
	tells(t, c, 3)
	holds(t, c, 5, 1)
	fails(t, "Set again", c.Set(5, 45), api.OK)
	holds(t, c, 5, 40)
	c.Stop(2)
	holds(t, c, 4, 45)
	fails(t, "Pass(50)", c.Pass(50), api.OK)
	// What is due stays till it is told.
	holds(t, c, 4, 45)
	tells(t, c, 5, 0)
	holds(t, c, 2, 60)
	c.Stop(1)
	holds(t, c, 1, lastTime)
	c.Stop(4)
	holds(t, c, 0, 0)
}

// orders calls f with each order of the numbers below n.
func orders(n int, f func([]int)) {
	l := make([]int, n)
	var fill func(k int)
	fill = func(k int) {
		if k == n {
			f(l)
			return
		}
		for i := k; i < n; i++ {
			l[k], l[i] = l[i], l[k]
			fill(k + 1)
			l[k], l[i] = l[i], l[k]
		}
	}
	for i := range l {
		l[i] = i
	}
	fill(0)
}

// Six timers set in each order, each of them set again at each time between and about the others, or stopped.
func TestEachOrder(t *testing.T) {
	orders(6, func(l []int) {
		for changed := range uint64(6) {
			for due := int64(-1); due <= 11; due++ {
				p := pairOf(t, 1000, 10)
				for id, place := range l {
					p.set(uint64(id), int64(2*place))
				}
				if due < 0 {
					p.stop(changed)
				} else {
					p.set(changed, due)
				}
				p.due()
				p.looks()
			}
		}
	})
}

// Heaps of each size, with one timer stopped, set earlier or set later at each place.
func TestEachTimerOfEachNumberOfThem(t *testing.T) {
	r := rand.New(rand.NewPCG(6, 1))
	for n := 1; n <= 40; n++ {
		for changed := range uint64(n) {
			for kind := range 3 {
				p := pairOf(t, 1000, 1000)
				for id := range uint64(n) {
					p.set(id, r.Int64N(60))
				}
				switch kind {
				case 0:
					p.stop(changed)
				case 1:
					p.set(changed, 0)
				case 2:
					p.set(changed, 59)
				}
				p.looks()
				p.due()
				p.looks()
			}
		}
	}
}

func TestAnswersShareNothing(t *testing.T) {
	c := clockAt(t, 9, waiting{1, 1}, waiting{2, 2}, waiting{3, 3}, waiting{4, 30})
	first := c.Due()
	for id := range uint64(3) {
		fails(t, "Set", c.Set(id+5, int64(9-id)), api.OK)
	}
	second := c.Due()
	if !slices.Equal(first, []uint64{1, 2, 3}) || !slices.Equal(second, []uint64{7, 6, 5}) {
		t.Errorf("Due: %v, %v", first, second)
	}
	for _, l := range [][]uint64{first[:cap(first)], second[:cap(second)]} {
		for i := range l {
			l[i] = 4
		}
		clear(l)
	}
	holds(t, c, 1, 30)
	fails(t, "Pass", c.Pass(21), api.OK)
	tells(t, c, 4)
}
