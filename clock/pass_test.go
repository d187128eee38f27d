package clock_test

import (
	"math"
	"math/big"
	"testing"

	"tontine/api"
)

// room is how many ticks of a rate go by till the time is above the last one, less one.
func room(rate int, thousandths *big.Int) int64 {
	left := new(big.Int).Sub(times(lastTime+1, 1000), big.NewInt(1))
	left.Sub(left, thousandths)
	return left.Div(left, big.NewInt(int64(rate))).Int64()
}

func TestPassOfNothing(t *testing.T) {
	for _, rate := range rates {
		for _, at := range atTimes {
			c := made(t, rate, at)
			for range 3 {
				fails(t, "Pass(0)", c.Pass(0), api.OK)
				stands(t, c, at)
			}
		}
	}
}

func TestPassOfLessThanNothing(t *testing.T) {
	for _, rate := range rates {
		for _, at := range atTimes {
			c := made(t, rate, at)
			for _, n := range []int64{-1, -2, -1000, -lastTime, math.MinInt64 / 1000, math.MinInt64 + 1, math.MinInt64} {
				fails(t, "Pass", c.Pass(n), api.ErrArg)
				stands(t, c, at)
			}
			if at < lastTime-2000 {
				thousandth(t, c, 0)
			}
		}
	}
}

// Thousandths are kept from tick to tick, not lost at each.
func TestPassTickByTick(t *testing.T) {
	for _, rate := range rates {
		c := made(t, rate, 3)
		for n := int64(1); n <= 2100; n++ {
			fails(t, "Pass(1)", c.Pass(1), api.OK)
			stands(t, c, 3+n*int64(rate)/1000)
		}
	}
}

func TestPassInPartsIsPassAtOnce(t *testing.T) {
	for _, rate := range rates {
		for _, parts := range [][]int64{{7, 5}, {1, 1, 1, 1, 1, 1, 1, 1, 1, 1, 1, 1}, {0, 12}, {11, 0, 1}} {
			c := made(t, rate, 0)
			for _, n := range parts {
				fails(t, "Pass", c.Pass(n), api.OK)
			}
			once := made(t, rate, 0)
			fails(t, "Pass(12)", once.Pass(12), api.OK)
			stands(t, c, once.Now())
			thousandth(t, c, 12*int64(rate)%1000)
			thousandth(t, once, 12*int64(rate)%1000)
		}
	}
}

func TestPassToTheEnd(t *testing.T) {
	for rate := 900; rate <= 1100; rate++ {
		for _, at := range []int64{0, 1, 123456789, 1 << 39, lastTime - 3, lastTime - 2, lastTime - 1, lastTime} {
			n := room(rate, times(at, 1000))
			c := made(t, rate, at)
			fails(t, "Pass of one too many", c.Pass(n+1), api.ErrClockEnd)
			stands(t, c, at)
			fails(t, "Pass to the end", c.Pass(n), api.OK)
			then := new(big.Int).Add(times(at, 1000), times(n, rate))
			stands(t, c, timeOf(then).Int64())
			fails(t, "Pass(1) at the end", c.Pass(1), api.ErrClockEnd)
			fails(t, "Pass(0) at the end", c.Pass(0), api.OK)
			fails(t, "Pass(-1) at the end", c.Pass(-1), api.ErrArg)
			stands(t, c, timeOf(then).Int64())
		}
	}
}

// The last time has 1000 thousandths, as any other.
func TestPassWithinTheLastTime(t *testing.T) {
	for rate := 900; rate <= 1100; rate++ {
		c := made(t, rate, lastTime)
		want := api.OK
		if rate >= 1000 {
			want = api.ErrClockEnd
		}
		fails(t, "Pass(1)", c.Pass(1), want)
		stands(t, c, lastTime)
		// Two ticks are more than the last time has, at any rate.
		fails(t, "Pass(2)", made(t, rate, lastTime).Pass(2), api.ErrClockEnd)
	}
	c := made(t, 1000, 0)
	fails(t, "Pass of all", c.Pass(lastTime), api.OK)
	stands(t, c, lastTime)
	fails(t, "Turn(999)", c.Turn(999), api.OK)
	fails(t, "Pass(1)", c.Pass(1), api.OK)
	stands(t, c, lastTime)
	for _, rate := range rates {
		fails(t, "Turn", c.Turn(rate), api.OK)
		fails(t, "Pass(1)", c.Pass(1), api.ErrClockEnd)
		stands(t, c, lastTime)
	}
	fails(t, "Pass of all and one", made(t, 1000, 0).Pass(lastTime+1), api.ErrClockEnd)
}

// tooFar are ticks whose products with a rate do not fit 64 bits, or whose sums with what has passed do not; those that look small when they are cut to 64 bits among them.
func tooFar(rate int) []int64 {
	l := []int64{math.MaxInt64, math.MaxInt64 - 1, 1 << 62, 1 << 61, 1<<61 + 1, 1 << 54, 1<<54 + 1, 1 << 53, lastTime * 2}
	r := int64(rate)
	// The most whose product fits, and those about it: with what has passed it does not.
	for d := int64(-2); d <= 2; d++ {
		l = append(l, math.MaxInt64/r+d)
	}
	// Those whose product is just above a multiple of 2^64.
	whole := new(big.Int).Lsh(big.NewInt(1), 64)
	for k := int64(1); k <= r/2-1; k += 37 {
		n := new(big.Int).Mul(whole, big.NewInt(k))
		n.Div(n, big.NewInt(r))
		for d := int64(0); d <= 2; d++ {
			l = append(l, n.Int64()+d)
		}
	}
	return l
}

func TestPassOfWhatDoesNotFit(t *testing.T) {
	for _, rate := range append([]int{1024, 960, 992}, rates...) {
		for _, at := range atTimes {
			c := made(t, rate, at)
			for _, n := range tooFar(rate) {
				fails(t, "Pass of too many", c.Pass(n), api.ErrClockEnd)
				stands(t, c, at)
			}
			if at < lastTime-2000 {
				thousandth(t, c, 0)
			}
		}
	}
}

func TestRefusedPassLeavesAll(t *testing.T) {
	for _, n := range []int64{math.MinInt64, -1, lastTime, lastTime + 1, math.MaxInt64} {
		p := pairOf(t, 1001, 50)
		p.set(4, 60)
		p.set(5, 55)
		p.pass(7)
		p.pass(n)
		p.looks()
		p.due()
		p.looks()
		p.pass(4)
		p.due()
		p.looks()
		// The rate is still the one it was.
		p.pass(1000)
		p.looks()
		thousandth(t, p.c, 11)
	}
}

func TestTurnInTheMiddleOfAThousandth(t *testing.T) {
	c := made(t, 900, 5)
	fails(t, "Pass(1)", c.Pass(1), api.OK)
	for _, rate := range []int{1100, 900, 1000, 1099} {
		fails(t, "Turn", c.Turn(rate), api.OK)
		stands(t, c, 5)
	}
	// 5900 thousandths, and 1099.
	fails(t, "Pass(1)", c.Pass(1), api.OK)
	stands(t, c, 6)
	fails(t, "Turn(901)", c.Turn(901), api.OK)
	// 6999 thousandths stand, and 7900 are reached.
	stands(t, c, 6)
	fails(t, "Pass(1)", c.Pass(1), api.OK)
	stands(t, c, 7)
	thousandth(t, c, 900)
}

func TestTurnHoldsFromNowOn(t *testing.T) {
	for _, was := range rates {
		for _, rate := range rates {
			c := made(t, was, 10)
			fails(t, "Pass(3)", c.Pass(3), api.OK)
			fails(t, "Turn", c.Turn(rate), api.OK)
			sum := 10000 + 3*int64(was)
			stands(t, c, sum/1000)
			fails(t, "Pass(4)", c.Pass(4), api.OK)
			sum += 4 * int64(rate)
			stands(t, c, sum/1000)
			thousandth(t, c, sum%1000)
		}
	}
}

func TestTurnOfWhatMayNotBe(t *testing.T) {
	for _, rate := range wrongRates {
		c := made(t, 903, 10)
		fails(t, "Pass(1)", c.Pass(1), api.OK)
		fails(t, "Turn", c.Turn(rate), api.ErrArg)
		stands(t, c, 10)
		fails(t, "Pass(2)", c.Pass(2), api.OK)
		stands(t, c, 12)
		thousandth(t, c, 709)
	}
}

func TestTurnOfEachRate(t *testing.T) {
	c := made(t, 1000, 0)
	sum := int64(0)
	for rate := 850; rate <= 1150; rate++ {
		want := api.ErrArg
		if rate >= 900 && rate <= 1100 {
			want = api.OK
		}
		fails(t, "Turn", c.Turn(rate), want)
		fails(t, "Pass(1)", c.Pass(1), api.OK)
		switch {
		case rate < 900:
			sum += 1000
		case rate > 1100:
			sum += 1100
		default:
			sum += int64(rate)
		}
		stands(t, c, sum/1000)
	}
}

func TestTurnAtTheEnd(t *testing.T) {
	c := made(t, 1100, lastTime)
	fails(t, "Turn(900)", c.Turn(900), api.OK)
	fails(t, "Pass(1)", c.Pass(1), api.OK)
	fails(t, "Pass(1)", c.Pass(1), api.ErrClockEnd)
	fails(t, "Turn(1100)", c.Turn(1100), api.OK)
	stands(t, c, lastTime)
}

func TestTurnLeavesTimers(t *testing.T) {
	c := made(t, 1000, 0)
	fails(t, "Set", c.Set(3, 10), api.OK)
	fails(t, "Turn", c.Turn(1100), api.OK)
	holds(t, c, 1, 10)
	fails(t, "Pass(9)", c.Pass(9), api.OK)
	tells(t, c)
	fails(t, "Pass(1)", c.Pass(1), api.OK)
	tells(t, c, 3)
}

func TestNowChangesNothing(t *testing.T) {
	c, asked := made(t, 999, 8), made(t, 999, 8)
	for range 1500 {
		fails(t, "Pass(1)", c.Pass(1), api.OK)
		fails(t, "Pass(1)", asked.Pass(1), api.OK)
		for range 3 {
			stands(t, asked, c.Now())
		}
	}
	thousandth(t, c, 500)
	thousandth(t, asked, 500)
}
