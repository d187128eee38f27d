package inbox_test

import (
	"math"
	"math/big"
	"math/rand/v2"
	"testing"

	"tontine/inbox"
)

// tryNumbers are those about which a power of two might go wrong.
var tryNumbers = []int{math.MinInt, -65, -64, -2, -1, 0, 1, 2, 3, 8, 28, 29, 30, 31, 32, 33, 60, 61, 62, 63, 64, 65, 127, 128, 192, 255, 256, 1000, 1 << 31, 1<<32 + 1, 1 << 62, math.MaxInt - 1, math.MaxInt}

// waits are those about which base and most might go wrong.
var waits = []int64{math.MinInt64, -longest, -2, -1, 0, 1, 2, 3, 10, 35, 1<<15 - 1, 1 << 15, 1<<29 - 1, 1 << 29, 1<<29 + 1, longest - 1, longest, longest + 1, 2 * longest, 1 << 31, 1<<32 + 1, 1 << 34, 1 << 62, math.MaxInt64}

func TestWait(t *testing.T) {
	for _, w := range []struct {
		base, most int64
		k          int
		want       int64
	}{
		{1, longest, 0, 1}, {1, longest, 1, 2}, {1, longest, 29, longest / 2}, {1, longest, 30, longest},
		{1, longest, 31, longest}, {1, longest, 62, longest}, {1, longest, 63, longest}, {1, longest, 64, longest}, {1, longest, math.MaxInt, longest},
		{1, longest - 1, 29, longest / 2}, {1, longest - 1, 30, longest - 1}, {1, longest - 1, 31, longest - 1},
		{3, longest, 28, 3 << 28}, {3, longest, 29, longest},
		{1, 1, 0, 1}, {1, 1, 1, 1}, {1, 1, 64, 1}, {1, 2, 0, 1}, {1, 2, 1, 2}, {1, 2, 2, 2},
		{10, 10, 0, 10}, {10, 10, 1, 10}, {10, 19, 1, 19}, {10, 20, 1, 20}, {10, 21, 1, 20}, {10, 21, 2, 21},
		{longest, longest, 0, longest}, {longest, longest, 1, longest}, {longest, longest, 33, longest}, {longest, longest, 34, longest}, {longest, longest, math.MaxInt, longest},
		{longest - 1, longest, 0, longest - 1}, {longest - 1, longest, 1, longest},
	} {
		waitIs(t, w.base, w.most, w.k, w.want)
	}
}

func TestWaitOfWhatMayNotBe(t *testing.T) {
	for _, w := range []struct {
		base, most int64
		k          int
	}{
		{0, 0, 0}, {0, 1, 0}, {0, longest, 5}, {-1, 1, 0}, {-1, -1, 0}, {math.MinInt64, longest, 0},
		{2, 1, 0}, {10, 9, 0}, {10, 9, 1}, {longest, longest - 1, 0}, {1, 0, 0}, {1, -1, 0}, {5, math.MinInt64, 0},
		{1, longest + 1, 0}, {1, longest + 1, 30}, {longest + 1, longest + 1, 0}, {1, math.MaxInt64, 0}, {math.MaxInt64, math.MaxInt64, 0},
		{1, 1, -1}, {10, 35, -1}, {1, longest, -1}, {1, longest, -64}, {10, 35, math.MinInt},
	} {
		waitIs(t, w.base, w.most, w.k, 0)
	}
}

func TestWaitHeldAgainstTheWords(t *testing.T) {
	for _, base := range waits {
		for _, most := range waits {
			for _, k := range tryNumbers {
				waitIs(t, base, most, k, delay(base, most, k))
			}
		}
	}
	for base := int64(-1); base <= 20; base++ {
		for most := int64(-1); most <= 50; most++ {
			for k := -2; k <= 70; k++ {
				waitIs(t, base, most, k, delay(base, most, k))
			}
		}
	}
	r := rand.New(rand.NewPCG(8, 1))
	for range 20000 {
		base, most, k := r.Int64N(longest+9)>>r.IntN(31), r.Int64N(longest+9)>>r.IntN(8), r.IntN(70)-1
		waitIs(t, base, most, k, delay(base, most, k))
	}
}

// The time between two tries does not become less from try to try, and is never without a bound.
func TestWaitGrows(t *testing.T) {
	for base := int64(1); base <= longest; base *= 3 {
		for most := base; most <= longest; most = most*5 + 1 {
			before := base
			for k := range 80 {
				w := inbox.Wait(base, most, k)
				if w < before || w > most || w > 2*before {
					t.Errorf("Wait(%d, %d, %d): %d behind %d", base, most, k, w, before)
				}
				before = w
			}
		}
	}
}

// delay is the chapter's words a second time, in integers of unlimited size.
func delay(base, most int64, k int) int64 {
	if base < 1 || most < base || most > 1073741824 || k < 0 {
		return 0
	}
	if k > 500 {
		return most
	}
	d := new(big.Int).Exp(big.NewInt(2), big.NewInt(int64(k)), nil)
	d.Mul(d, big.NewInt(base))
	if d.Cmp(big.NewInt(most)) > 0 {
		return most
	}
	return d.Int64()
}

func waitIs(t *testing.T, base, most int64, k int, want int64) {
	t.Helper()
	if got := inbox.Wait(base, most, k); got != want {
		t.Errorf("Wait(%d, %d, %d): %d, want %d", base, most, k, got, want)
	}
}
