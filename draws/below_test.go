package draws_test

import (
	"math"
	"math/big"
	"math/rand/v2"
	"testing"

	"tontine/api"
	"tontine/draws"
)

// refuses tries a call that must be an error and must leave the state as it was.
func refuses(t *testing.T, d *draws.Draws, what string, call func() (zero bool, e api.Errno)) {
	t.Helper()
	was := d.State()
	if zero, e := call(); !zero || e != api.ErrArg {
		t.Errorf("%s: other results zero: %v, error %d", what, zero, e)
	}
	stands(t, d, was)
}

// below asks for a number below n, which takes one number.
func below(t *testing.T, d *draws.Draws, n, want int) {
	t.Helper()
	was := d.State()
	if got, e := d.Below(n); got != want || e != api.OK {
		t.Errorf("Below(%d) at state %#x: %d, %d, want %d", n, was, got, e, want)
	}
	stands(t, d, was+growth)
}

func TestBelowOfTheChapter(t *testing.T) {
	d := draws.New(0)
	below(t, d, 10, 8)
	refuses(t, d, "Below(0)", func() (bool, api.Errno) {
		x, e := d.Below(0)
		return x == 0, e
	})
	// The second number, 0x6e78.., is 43 hundredths of 2^64.
	below(t, d, 100, 43)
}

func TestBelowAtTheEdges(t *testing.T) {
	for _, c := range []struct {
		next uint64
		n    int
		want int
	}{
		{0, 1, 0},
		{0, 2, 0},
		{0, 1 << 31, 0},
		{0, math.MaxInt, 0},
		{1, 1, 0},
		{1, 1 << 31, 0},
		{1, math.MaxInt, 0},
		{2, math.MaxInt, 0},
		{3, math.MaxInt, 1},
		{1 << 33, 1<<31 - 1, 0},
		{1<<33 - 1, 1 << 31, 0},
		{1 << 33, 1 << 31, 1},
		{1 << 63, 1, 0},
		{1<<63 - 1, 2, 0},
		{1 << 63, 2, 1},
		{1 << 63, 3, 1},
		{1 << 63, 1 << 31, 1 << 30},
		{1<<63 - 1, 1 << 31, 1<<30 - 1},
		{1 << 63, math.MaxInt, math.MaxInt / 2},
		{greatest, 1, 0},
		{greatest, 2, 1},
		{greatest, 10, 9},
		{greatest, 1<<31 - 1, 1<<31 - 2},
		{greatest, 1 << 31, 1<<31 - 1},
		{greatest, 1 << 32, 1<<32 - 1},
		{greatest, 1<<32 + 1, 1 << 32},
		{greatest, math.MaxInt, math.MaxInt - 1},
		{greatest - 1, math.MaxInt, math.MaxInt - 1},
		{greatest - 2, math.MaxInt, math.MaxInt - 2},
		// Only what the lower halves carry makes these.
		{0x5555555555555555, 3, 0},
		{0x5555555555555556, 3, 1},
		{0xaaaaaaaaaaaaaaaa, 3, 1},
		{0xaaaaaaaaaaaaaaab, 3, 2},
		{0x00000001ffffffff, 1 << 32, 1},
		{0x0000000100000000, 1<<32 - 1, 0},
		{0x0000000100000001, 1<<32 - 1, 0},
		{0x0000000100000002, 1<<32 - 1, 1},
	} {
		below(t, draws.New(before(c.next)), c.n, c.want)
	}
}

func TestBelowOfNoNumber(t *testing.T) {
	for _, seed := range edges {
		d := draws.New(seed)
		for _, n := range []int{0, -1, -2, -10, -1 << 31, -1 << 32, math.MinInt, math.MinInt + 1} {
			refuses(t, d, "Below", func() (bool, api.Errno) {
				x, e := d.Below(n)
				return x == 0, e
			})
		}
		if got, want := d.Next(), draws.New(seed).Next(); got != want {
			t.Errorf("Next behind errors: %#x, want %#x", got, want)
		}
	}
}

// ends are numbers for Below at powers of 2 and beside them.
func ends() []int {
	l := []int{1, 2, 3, 10, 1000, math.MaxInt - 1, math.MaxInt}
	for bit := 2; bit < 63; bit++ {
		l = append(l, 1<<bit-1, 1<<bit, 1<<bit+1)
	}
	return l
}

func TestBelowHeldAgainstTheModel(t *testing.T) {
	r := rand.New(rand.NewPCG(5, 2))
	numbers := ends()
	for range 300 {
		numbers = append(numbers, int(r.Uint64()>>(1+r.IntN(62)))+1)
	}
	for _, x := range several(40) {
		for _, n := range numbers {
			seed := before(x)
			m := modelOf(seed)
			want, _ := m.below(n)
			below(t, draws.New(seed), n, want)
		}
	}
}

// least is the least next number of which Below(n) makes x.
func least(x, n uint64) uint64 {
	p := new(big.Int).Mul(of(x), whole())
	p.Add(p, of(n-1))
	return p.Div(p, of(n)).Uint64()
}

func TestBelowRoundsDown(t *testing.T) {
	r := rand.New(rand.NewPCG(5, 3))
	for _, n := range ends()[1:] {
		for range 10 {
			x := 1 + r.IntN(n-1)
			at := least(uint64(x), uint64(n))
			below(t, draws.New(before(at)), n, x)
			below(t, draws.New(before(at-1)), n, x-1)
		}
	}
}

func TestBelowIsEveryNumber(t *testing.T) {
	d := draws.New(1)
	seen := [7]int{}
	for range 7000 {
		x, e := d.Below(7)
		if e != api.OK || x < 0 || x > 6 {
			t.Fatalf("Below(7): %d, %d", x, e)
		}
		seen[x]++
	}
	for x, n := range seen {
		if n < 800 || n > 1200 {
			t.Errorf("%d of 7000 are %d", n, x)
		}
	}
}
