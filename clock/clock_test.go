package clock_test

import (
	"math"
	"testing"

	"tontine/api"
	"tontine/clock"
)

// The calls, as the chapter lists them.
var (
	_ func(int, int64) (*clock.Clock, api.Errno)  = clock.New
	_ func(*clock.Clock, int64) api.Errno         = (*clock.Clock).Pass
	_ func(*clock.Clock, int) api.Errno           = (*clock.Clock).Turn
	_ func(*clock.Clock) int64                    = (*clock.Clock).Now
	_ func(*clock.Clock, uint64, int64) api.Errno = (*clock.Clock).Set
	_ func(*clock.Clock, uint64) bool             = (*clock.Clock).Stop
	_ func(*clock.Clock) []uint64                 = (*clock.Clock).Due
	_ func(*clock.Clock) (int64, bool)            = (*clock.Clock).Next
	_ func(*clock.Clock) int                      = (*clock.Clock).Count
)

var (
	rates      = []int{900, 901, 999, 1000, 1001, 1099, 1100}
	wrongRates = []int{math.MinInt, -1100, -1000, -900, -1, 0, 1, 100, 899, 1101, 1900, math.MaxInt}
	atTimes    = []int64{0, 1, 999, 1000, 1 << 31, 1 << 32, lastTime - 1, lastTime}
	wrongTimes = []int64{math.MinInt64, -lastTime, -1000, -1, lastTime + 1, 2 * lastTime, math.MaxInt64}
)

func TestNumbersOfTheChapter(t *testing.T) {
	if api.ErrArg != 1 || api.ErrClockEnd != 61 || api.ErrClockFull != 62 {
		t.Error("the errors' numbers")
	}
	if api.MaxTime != lastTime || api.MaxTimers != mostSet || api.MaxDrift != 100 {
		t.Error("the limits")
	}
}

func TestRowsOfTheChapter(t *testing.T) {
	if c, e := clock.New(899, 0); c != nil || e != api.ErrArg {
		t.Errorf("New(899, 0): %v, %d", c, e)
	}
	if c, e := clock.New(1000, -1); c != nil || e != api.ErrArg {
		t.Errorf("New(1000, -1): %v, %d", c, e)
	}
	made(t, 1100, 1<<40)

	c := made(t, 900, 5)
	fails(t, "Pass(1)", c.Pass(1), api.OK)
	stands(t, c, 5)
	fails(t, "Pass(1)", c.Pass(1), api.OK)
	stands(t, c, 6)
	fails(t, "Pass(-1)", c.Pass(-1), api.ErrArg)

	c = made(t, 1100, 1<<40)
	fails(t, "Pass(0)", c.Pass(0), api.OK)
	fails(t, "Pass(1)", c.Pass(1), api.ErrClockEnd)
	stands(t, c, 1<<40)

	c = made(t, 1000, 0)
	fails(t, "Set(7, 3)", c.Set(7, 3), api.OK)
	fails(t, "Set(8, 3)", c.Set(8, 3), api.OK)
	fails(t, "Set(7, 3)", c.Set(7, 3), api.OK)
	fails(t, "Pass(3)", c.Pass(3), api.OK)
	tells(t, c, 8, 7)
	holds(t, c, 0, 0)
}

func TestNew(t *testing.T) {
	for _, rate := range rates {
		for _, at := range atTimes {
			c := made(t, rate, at)
			stands(t, c, at)
			holds(t, c, 0, 0)
			tells(t, c)
			stands(t, c, at)
			if at < lastTime-2000 {
				thousandth(t, c, 0)
			}
		}
	}
}

func TestNewGoesAtItsRate(t *testing.T) {
	for rate := 900; rate <= 1100; rate++ {
		c := made(t, rate, 70)
		fails(t, "Pass(1000)", c.Pass(1000), api.OK)
		stands(t, c, 70+int64(rate))
		fails(t, "Pass(1)", c.Pass(1), api.OK)
		stands(t, c, 70+int64(rate)+int64(rate/1000))
		thousandth(t, c, int64(rate%1000))
	}
}

func TestNewOfWhatMayNotBe(t *testing.T) {
	for _, rate := range append(wrongRates, rates...) {
		for _, at := range append(wrongTimes, atTimes...) {
			c, e := clock.New(rate, at)
			if may := rate >= 900 && rate <= 1100 && at >= 0 && at <= lastTime; may != (e == api.OK) || may != (c != nil) {
				t.Errorf("New(%d, %d): %v, %d", rate, at, c, e)
			} else if !may && e != api.ErrArg {
				t.Errorf("New(%d, %d): %d", rate, at, e)
			}
		}
	}
}

func TestClocksGoAlone(t *testing.T) {
	a, b := pairOf(t, 900, 5), pairOf(t, 1100, 5)
	a.set(1, 9)
	a.looks()
	b.looks()
	b.set(2, 7)
	b.set(1, 8)
	b.pass(6)
	a.looks()
	b.looks()
	b.stop(1)
	a.turn(1000)
	a.pass(2)
	b.pass(1)
	a.looks()
	b.looks()
	a.due()
	b.due()
	a.looks()
	b.looks()
}

func TestNil(t *testing.T) {
	var c *clock.Clock
	for _, n := range []int64{math.MinInt64, -1, 0, 1, 900, 1000, lastTime, lastTime + 1, math.MaxInt64} {
		fails(t, "Pass of nil", c.Pass(n), api.ErrArg)
		fails(t, "Turn of nil", c.Turn(int(n)), api.ErrArg)
		fails(t, "Set of nil", c.Set(uint64(n), n), api.ErrArg)
		if c.Stop(uint64(n)) {
			t.Errorf("Stop(%d) of nil", n)
		}
		stands(t, c, 0)
		holds(t, c, 0, 0)
		tells(t, c)
	}
}
