package draws_test

import (
	"fmt"
	"math"
	"slices"
	"testing"

	"tontine/api"
	"tontine/draws"
)

// order asks for an order of n numbers, which takes n - 1 numbers, and none if n is 0.
func order(t *testing.T, d *draws.Draws, n int) []int {
	t.Helper()
	was := d.State()
	l, e := d.Order(n)
	if e != api.OK || len(l) != n {
		t.Fatalf("Order(%d): %d numbers, %d", n, len(l), e)
	}
	stands(t, d, was+uint64(max(n-1, 0))*growth)
	sorted := slices.Clone(l)
	slices.Sort(sorted)
	for i, x := range sorted {
		if i != x {
			t.Fatalf("Order(%d): %v lacks %d", n, l, i)
		}
	}
	return l
}

func TestOrderOfTheChapter(t *testing.T) {
	if l := order(t, draws.New(0), 4); !slices.Equal(l, []int{2, 0, 1, 3}) {
		t.Errorf("Order(4): %v", l)
	}
	d := draws.New(0)
	for i, want := range []int{3, 1, 0} {
		below(t, d, 4-i, want)
	}
}

func TestOrderOfFew(t *testing.T) {
	for _, seed := range several(20) {
		d := draws.New(seed)
		order(t, d, 0)
		if l := order(t, d, 1); !slices.Equal(l, []int{0}) {
			t.Errorf("Order(1): %v", l)
		}
		stands(t, d, seed)
	}
	for next, want := range map[uint64][]int{0: {1, 0}, 1<<63 - 1: {1, 0}, 1 << 63: {0, 1}, greatest: {0, 1}} {
		if l := order(t, draws.New(before(next)), 2); !slices.Equal(l, want) {
			t.Errorf("Order(2) at %#x: %v, want %v", next, l, want)
		}
	}
}

func TestOrderHeldAgainstTheModel(t *testing.T) {
	for _, n := range []int{0, 1, 2, 3, 4, 5, 6, 7, 8, 63, 64, 65, 999, 1000} {
		for _, seed := range several(12) {
			d, m := draws.New(seed), modelOf(seed)
			want, _ := m.order(n)
			if l := order(t, d, n); !slices.Equal(l, want) {
				t.Errorf("Order(%d) of %#x: %v, want %v", n, seed, l, want)
			}
			agrees(t, d, m)
			if m.taken != max(n-1, 0) {
				t.Errorf("the model takes %d numbers for %d", m.taken, n)
			}
		}
	}
}

func TestOrderOfEveryLength(t *testing.T) {
	d := draws.New(12)
	for n := range 1001 {
		order(t, d, n)
	}
}

func TestOrderOfTooMany(t *testing.T) {
	for _, seed := range edges {
		d := draws.New(seed)
		for _, n := range []int{-1, -2, -1000, math.MinInt, 1001, 1002, 1 << 20, 1 << 32, 1<<32 + 4, math.MaxInt} {
			refuses(t, d, fmt.Sprintf("Order(%d)", n), func() (bool, api.Errno) {
				l, e := d.Order(n)
				return len(l) == 0, e
			})
		}
		if got, want := d.Next(), draws.New(seed).Next(); got != want {
			t.Errorf("Next behind errors: %#x, want %#x", got, want)
		}
	}
}

func TestOrderIsEveryOrder(t *testing.T) {
	seen := map[string]int{}
	d := draws.New(2)
	for range 6000 {
		seen[fmt.Sprint(order(t, d, 3))]++
	}
	if len(seen) != 6 {
		t.Errorf("%d orders of 3 numbers", len(seen))
	}
	for l, n := range seen {
		if n < 800 || n > 1200 {
			t.Errorf("%d of 6000 are %s", n, l)
		}
	}
}

func TestOrdersShareNoMemory(t *testing.T) {
	d := draws.New(6)
	a := order(t, d, 8)
	held := slices.Clone(a)
	b := order(t, d, 8)
	other := slices.Clone(b)
	for i := range b {
		b[i] = -1
	}
	b = append(b[:0], 1, 2, 3)
	if !slices.Equal(a, held) {
		t.Errorf("an order changed to %v from %v", a, held)
	}
	same := draws.New(6)
	if x, y := order(t, same, 8), order(t, same, 8); !slices.Equal(x, held) || !slices.Equal(y, other) {
		t.Errorf("orders %v and %v, want %v and %v", x, y, held, other)
	}
}
