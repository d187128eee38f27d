package draws_test

import (
	"fmt"
	"math"
	"math/rand/v2"
	"slices"
	"testing"

	"tontine/api"
	"tontine/draws"
)

// The calls, as the chapter lists them.
var (
	_ func(uint64) *draws.Draws                  = draws.New
	_ func(*draws.Draws) uint64                  = (*draws.Draws).Next
	_ func(*draws.Draws, uint64)                 = (*draws.Draws).Skip
	_ func(*draws.Draws) uint64                  = (*draws.Draws).State
	_ func(*draws.Draws, int) (int, api.Errno)   = (*draws.Draws).Below
	_ func(*draws.Draws, []int) (int, api.Errno) = (*draws.Draws).Pick
	_ func(*draws.Draws, int) ([]int, api.Errno) = (*draws.Draws).Order
	_ func(*draws.Draws, uint64) *draws.Draws    = (*draws.Draws).Fork
)

const (
	growth   = 0x9e3779b97f4a7c15
	greatest = math.MaxUint64
)

// edges are numbers at the ends of 64 bits and at those of their halves.
var edges = []uint64{
	0, 1, 2, 3, 1<<32 - 1, 1 << 32, 1<<32 + 1, 1<<63 - 1, 1 << 63, 1<<63 + 1, greatest - 1, greatest,
	growth, growth - 1, growth + 1, greatest - growth, greatest - growth + 1, greatest - growth + 2,
}

// several are the edges, and numbers of no kind.
func several(n int) []uint64 {
	r := rand.New(rand.NewPCG(5, 1))
	l := slices.Clone(edges)
	for range n {
		l = append(l, r.Uint64())
	}
	return l
}

func TestStateOfANewOne(t *testing.T) {
	for _, seed := range several(100) {
		d := draws.New(seed)
		if d == nil {
			t.Fatalf("New(%#x) is nil", seed)
		}
		stands(t, d, seed)
		stands(t, d, seed)
	}
}

func TestNumbersOfTheChapter(t *testing.T) {
	d := draws.New(0)
	for _, want := range []uint64{0xe220a8397b1dcdaf, 0x6e789e6aa1b965f4} {
		if got := d.Next(); got != want {
			t.Errorf("Next: %#x, want %#x", got, want)
		}
	}
	stands(t, d, 0x3c6ef372fe94f82a)
}

// The numbers of SplitMix64, whose steps the chapter's are, for a seed that others print.
func TestNumbersOfAKnownSeed(t *testing.T) {
	d := draws.New(1234567)
	for i, want := range []uint64{
		6457827717110365317, 3203168211198807973, 9817491932198370423, 4593380528125082431, 16408922859458223821,
	} {
		if got := d.Next(); got != want {
			t.Errorf("number %d: %d, want %d", i, got, want)
		}
	}
}

func TestNextAtTheEdges(t *testing.T) {
	for _, c := range []struct{ seed, state, next uint64 }{
		// The mix of 0 is 0.
		{0x61c8864680b583eb, 0, 0},
		{0x61c8864680b583ec, 1, 0x5692161d100b05e5},
		{greatest, 0x9e3779b97f4a7c14, 0xe4d971771b652c20},
		{1 << 63, 0x1e3779b97f4a7c15, 0x481ec0a212a9f3db},
	} {
		d := draws.New(c.seed)
		if got, want := d.Next(), modelOf(c.seed).next().Uint64(); got != want || got != c.next {
			t.Errorf("Next of %#x: %#x, want %#x and %#x", c.seed, got, want, c.next)
		}
		stands(t, d, c.state)
	}
}

func TestNextHeldAgainstTheModel(t *testing.T) {
	for _, seed := range several(200) {
		d, m := draws.New(seed), modelOf(seed)
		for i := range 20 {
			if got, want := d.Next(), m.next().Uint64(); got != want {
				t.Fatalf("seed %#x, number %d: %#x, want %#x", seed, i, got, want)
			}
			agrees(t, d, m)
		}
	}
}

// A state is found again from its next number, so no two states have the same one.
func TestNextCanBeUndone(t *testing.T) {
	for _, state := range several(2000) {
		if got := before(draws.New(state).Next()); got != state {
			t.Errorf("%#x is the state before the next number of %#x", got, state)
		}
	}
	for _, x := range several(2000) {
		if got := draws.New(before(x)).Next(); got != x {
			t.Errorf("Next: %#x, want %#x", got, x)
		}
	}
}

func TestDifferentStatesDifferAtOnce(t *testing.T) {
	states := several(3000)
	for i := range uint64(3000) {
		states = append(states, i, greatest-i, 1<<63+i, i*growth, i<<40)
	}
	slices.Sort(states)
	of := map[uint64]uint64{}
	for _, s := range slices.Compact(states) {
		x := draws.New(s).Next()
		if other, ok := of[x]; ok {
			t.Errorf("%#x and %#x have the next number %#x", other, s, x)
		}
		of[x] = s
	}
}

// draw is something of everything that a generator does.
func draw(t *testing.T, d *draws.Draws) string {
	t.Helper()
	x := d.Next()
	below, e1 := d.Below(1000)
	pick, e2 := d.Pick([]int{3, 0, 4, 9})
	order, e3 := d.Order(9)
	fork := d.Fork(7)
	d.Skip(5)
	return fmt.Sprint(x, below, e1, pick, e2, order, e3, fork.Next(), d.Next(), d.State())
}

func TestSameStatesDrawTheSame(t *testing.T) {
	for _, seed := range several(50) {
		a, b := draws.New(seed), draws.New(0)
		// Another way to the same state, past numbers of its own.
		b.Next()
		b.Skip((seed - growth) * inverse("9e3779b97f4a7c15"))
		stands(t, b, seed)
		for range 5 {
			if x, y := draw(t, a), draw(t, b); x != y {
				t.Fatalf("%#x: %s, want %s", seed, y, x)
			}
		}
	}
}

func TestGeneratorsDoNotMoveOthers(t *testing.T) {
	alone := draws.New(9)
	want := []string{draw(t, alone), draw(t, alone)}
	a, b := draws.New(9), draws.New(9)
	for i := range want {
		x, y := draw(t, a), draw(t, b)
		if x != want[i] || y != want[i] {
			t.Errorf("%s and %s, want %s", x, y, want[i])
		}
		draw(t, draws.New(10))
	}
}

func TestSkip(t *testing.T) {
	for _, c := range []struct{ seed, n, want uint64 }{
		{0, 0, 0},
		{0, 1, growth},
		{0, 2, 0x3c6ef372fe94f82a},
		{0, greatest, 0x61c8864680b583eb},
		{1, greatest, 0x61c8864680b583ec},
		{growth, greatest, 0},
		{greatest, 0, greatest},
		{greatest, 1, growth - 1},
		{greatest, greatest, 0x61c8864680b583ea},
		{1 << 63, 1 << 63, 0},
		{0, 1 << 63, 1 << 63},
		{0, 1 << 32, 0x7f4a7c1500000000},
	} {
		d := draws.New(c.seed)
		d.Skip(c.n)
		if got := d.State(); got != c.want {
			t.Errorf("Skip(%#x) of %#x: %#x, want %#x", c.n, c.seed, got, c.want)
		}
	}
}

func TestSkipHeldAgainstTheModel(t *testing.T) {
	for _, seed := range several(30) {
		d, m := draws.New(seed), modelOf(seed)
		for _, n := range several(30) {
			d.Skip(n)
			m.skip(n)
			agrees(t, d, m)
		}
		if got, want := d.Next(), m.next().Uint64(); got != want {
			t.Errorf("Next: %#x, want %#x", got, want)
		}
	}
}

func TestSkipIsSoManyNext(t *testing.T) {
	for _, seed := range several(3) {
		next := draws.New(seed)
		for n := range uint64(400) {
			skip := draws.New(seed)
			skip.Skip(n)
			stands(t, skip, next.State())
			next.Next()
		}
	}
}

func TestSkipAllTheWayRound(t *testing.T) {
	for _, seed := range several(20) {
		d := draws.New(seed)
		d.Skip(greatest)
		stands(t, d, seed-growth)
		d.Next()
		stands(t, d, seed)
	}
}

func TestForkOfTheEdges(t *testing.T) {
	for _, seed := range several(30) {
		for _, by := range several(30) {
			d, m := draws.New(seed), modelOf(seed)
			fork := d.Fork(by)
			if fork == nil || fork == d {
				t.Fatalf("Fork(%#x) of %#x is no generator of its own", by, seed)
			}
			agrees(t, fork, m.fork(by))
			stands(t, d, seed)
		}
	}
}

func TestForkByHand(t *testing.T) {
	// The complement of 2^64 - 1 is 0, whose mix is 0.
	stands(t, draws.New(greatest).Fork(0), 0)
	stands(t, draws.New(greatest-growth).Fork(1), 0)
	stands(t, draws.New(growth-1).Fork(greatest), 0)
	// The complement of 2^64 - 2 is 1.
	stands(t, draws.New(greatest-1).Fork(0), 0x5692161d100b05e5)
	// The complement of this one is A, whose mix is the first number of the seed 0.
	stands(t, draws.New(0x61c8864680b583ea).Fork(0), 0xe220a8397b1dcdaf)
	stands(t, draws.New(0xc3910c8d016b07d5).Fork(1), 0xe220a8397b1dcdaf)
}

func TestForkGoesOnAlone(t *testing.T) {
	for _, seed := range several(20) {
		d, same := draws.New(seed), draws.New(seed)
		fork := d.Fork(3)
		state := fork.State()
		for range 3 {
			if x, y := draw(t, d), draw(t, same); x != y {
				t.Errorf("%#x: %s, want %s", seed, x, y)
			}
		}
		stands(t, fork, state)
		was := d.State()
		draw(t, fork)
		stands(t, d, was)
		if x, y := draw(t, d), draw(t, same); x != y {
			t.Errorf("%#x: %s, want %s", seed, x, y)
		}
	}
}

func TestForksOfOneDiffer(t *testing.T) {
	of := map[uint64]uint64{}
	d := draws.New(4)
	for by := range uint64(3000) {
		state := d.Fork(by).State()
		if other, ok := of[state]; ok {
			t.Errorf("Fork(%d) and Fork(%d) have the state %#x", other, by, state)
		}
		of[state] = by
		stands(t, d, 4)
		if got := d.Fork(by).State(); got != state {
			t.Errorf("Fork(%d) again: %#x, want %#x", by, got, state)
		}
	}
}

func TestNil(t *testing.T) {
	var d *draws.Draws
	if x := d.Next(); x != 0 {
		t.Errorf("Next: %d", x)
	}
	for _, n := range edges {
		d.Skip(n)
		if f := d.Fork(n); f != nil {
			t.Errorf("Fork(%#x): %v", n, f)
		}
	}
	if x := d.State(); x != 0 {
		t.Errorf("State: %d", x)
	}
	for _, n := range []int{math.MinInt, -1, 0, 1, 2, 1000, 1001, math.MaxInt} {
		if x, e := d.Below(n); x != 0 || e != api.ErrArg {
			t.Errorf("Below(%d): %d, %d", n, x, e)
		}
		if l, e := d.Order(n); len(l) != 0 || e != api.ErrArg {
			t.Errorf("Order(%d): %v, %d", n, l, e)
		}
	}
	for _, l := range [][]int{nil, {0}, {1}, {-1}, {0, 0, 5}, make([]int, 1001)} {
		if x, e := d.Pick(l); x != 0 || e != api.ErrArg {
			t.Errorf("Pick of %d weights: %d, %d", len(l), x, e)
		}
	}
}
