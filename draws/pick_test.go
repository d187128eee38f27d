package draws_test

import (
	"fmt"
	"math"
	"math/rand/v2"
	"slices"
	"testing"

	"tontine/api"
	"tontine/draws"
)

const maxWeight = 2147483647

// pick asks for one of the weights, which takes one number and changes none of them.
func pick(t *testing.T, d *draws.Draws, weights []int, want int) {
	t.Helper()
	was, held := d.State(), slices.Clone(weights)
	if got, e := d.Pick(weights); got != want || e != api.OK {
		t.Errorf("Pick of %d weights at state %#x: %d, %d, want %d", len(weights), was, got, e, want)
	}
	stands(t, d, was+growth)
	if !slices.Equal(weights, held) {
		t.Errorf("weights changed to %v from %v", weights, held)
	}
}

// pickNone asks for one of weights that are none.
func pickNone(t *testing.T, d *draws.Draws, weights []int) {
	t.Helper()
	held := slices.Clone(weights)
	refuses(t, d, fmt.Sprintf("Pick of %d weights", len(weights)), func() (bool, api.Errno) {
		x, e := d.Pick(weights)
		return x == 0, e
	})
	if !slices.Equal(weights, held) {
		t.Errorf("weights changed to %v from %v", weights, held)
	}
}

// same are n weights of one kind.
func same(n, weight int) []int { return slices.Repeat([]int{weight}, n) }

// with is a list with one other weight.
func with(l []int, at, weight int) []int {
	l = slices.Clone(l)
	l[at] = weight
	return l
}

func sum(l []int) int {
	s := 0
	for _, w := range l {
		s += w
	}
	return s
}

// aimed is a generator whose Below(n) is x: at the least number that makes it, or at the greatest one.
func aimed(x, n int, high bool) *draws.Draws {
	if high && x == n-1 {
		return draws.New(before(greatest))
	}
	if high {
		return draws.New(before(least(uint64(x+1), uint64(n)) - 1))
	}
	return draws.New(before(least(uint64(x), uint64(n))))
}

func TestPickEveryShare(t *testing.T) {
	for _, c := range []struct {
		weights []int
		want    []int // for each number below the sum
	}{
		{[]int{1}, []int{0}},
		{[]int{3}, []int{0, 0, 0}},
		{[]int{1, 1}, []int{0, 1}},
		{[]int{0, 1}, []int{1}},
		{[]int{1, 0}, []int{0}},
		{[]int{0, 0, 2}, []int{2, 2}},
		{[]int{2, 0, 0}, []int{0, 0}},
		{[]int{1, 0, 0, 2}, []int{0, 3, 3}},
		{[]int{0, 3, 0, 0, 2, 0}, []int{1, 1, 1, 4, 4}},
		{[]int{1, 2, 3, 4}, []int{0, 1, 1, 2, 2, 2, 3, 3, 3, 3}},
	} {
		for x, want := range c.want {
			pick(t, aimed(x, len(c.want), false), c.weights, want)
			pick(t, aimed(x, len(c.want), true), c.weights, want)
		}
	}
}

func TestPickOfTheGreatest(t *testing.T) {
	pick(t, draws.New(before(0)), []int{maxWeight}, 0)
	pick(t, draws.New(before(greatest)), []int{maxWeight}, 0)
	two := []int{maxWeight, maxWeight}
	for x, want := range map[int]int{0: 0, maxWeight - 1: 0, maxWeight: 1, 2*maxWeight - 1: 1} {
		pick(t, aimed(x, 2*maxWeight, false), two, want)
		pick(t, aimed(x, 2*maxWeight, true), two, want)
	}
	all := same(1000, maxWeight)
	for _, i := range []int{0, 1, 2, 3, 499, 998, 999} {
		for _, high := range []bool{false, true} {
			pick(t, aimed(i*maxWeight, 1000*maxWeight, high), all, i)
			pick(t, aimed((i+1)*maxWeight-1, 1000*maxWeight, high), all, i)
		}
	}
}

func TestPickOfAThousand(t *testing.T) {
	for i := range 1000 {
		pick(t, aimed(i, 1000, i%2 > 0), same(1000, 1), i)
		pick(t, draws.New(uint64(i)), with(same(1000, 0), i, 1), i)
	}
	for _, n := range []int{1001, 1002, 2000, 1 << 16} {
		d := draws.New(uint64(n))
		pickNone(t, d, same(n, 1))
		pickNone(t, d, same(n, 0))
		pickNone(t, d, with(same(n, 0), n-1, 5))
		pickNone(t, d, with(same(n, 0), 0, 5))
		pickNone(t, d, same(n, maxWeight))
	}
}

func TestPickOfNoWeights(t *testing.T) {
	for _, seed := range edges {
		d := draws.New(seed)
		pickNone(t, d, nil)
		pickNone(t, d, []int{})
		pickNone(t, d, make([]int, 0, 4))
		pickNone(t, d, []int{0})
		pickNone(t, d, []int{0, 0})
		pickNone(t, d, same(1000, 0))
		pickNone(t, d, []int{-1})
		if got, want := d.Next(), draws.New(seed).Next(); got != want {
			t.Errorf("Next behind errors: %#x, want %#x", got, want)
		}
	}
}

// A weight that may not be is found wherever it stands, whatever the others and the sum are.
func TestPickOfAWrongWeight(t *testing.T) {
	wrong := []int{-1, -2, -maxWeight, math.MinInt, math.MinInt + 1, -1 << 32, maxWeight + 1, maxWeight + 2, 1 << 32, 1<<32 + 1, math.MaxInt}
	d := draws.New(3)
	for _, w := range wrong {
		pickNone(t, d, []int{w})
		for _, l := range [][]int{{5, 5, 5}, {0, 0, 0}, {maxWeight, 0, maxWeight}, same(1000, 1), same(1000, maxWeight)} {
			for _, at := range []int{0, 1, len(l) - 1} {
				pickNone(t, d, with(l, at, w))
			}
		}
	}
	// Those that make up for one another are wrong too.
	pickNone(t, d, []int{-1, 1})
	pickNone(t, d, []int{1, -1, 1})
	pickNone(t, d, []int{math.MinInt, math.MinInt})
	pickNone(t, d, []int{math.MaxInt, math.MaxInt, 3})
}

// What lies between a list's length and its capacity is not looked at.
func TestPickWithinTheLength(t *testing.T) {
	room := []int{1, 2, -1, 7}
	pick(t, draws.New(before(greatest)), room[:2], 1)
	if !slices.Equal(room, []int{1, 2, -1, 7}) {
		t.Errorf("room changed to %v", room)
	}
}

func TestPickHeldAgainstTheModel(t *testing.T) {
	r := rand.New(rand.NewPCG(5, 4))
	bounds := []int{1, 2, 3, 10, 1000, maxWeight, maxWeight + 1}
	for range 3000 {
		l := make([]int, 1+r.IntN(1+r.IntN(40)))
		bound := bounds[r.IntN(len(bounds))]
		for i := range l {
			if r.IntN(3) > 0 {
				l[i] = r.IntN(bound)
			}
		}
		seed := r.Uint64()
		m := modelOf(seed)
		want, e := m.pick(l)
		if e != api.OK {
			pickNone(t, draws.New(seed), l)
			continue
		}
		if l[want] == 0 {
			t.Errorf("%v: a weight of 0 is picked", l)
		}
		pick(t, draws.New(seed), l, want)
	}
}

func TestPickIsBelowOfTheSum(t *testing.T) {
	r := rand.New(rand.NewPCG(5, 5))
	for range 500 {
		l := make([]int, 1+r.IntN(20))
		for i := range l {
			l[i] = r.IntN(5)
		}
		l[r.IntN(len(l))] = 1 + r.IntN(5)
		seed := r.Uint64()
		x, _ := draws.New(seed).Below(sum(l))
		i := slices.IndexFunc(l, func(w int) bool {
			x -= w
			return x < 0
		})
		pick(t, draws.New(seed), l, i)
	}
}
