package ring_test

import (
	"math"
	"math/rand/v2"
	"testing"

	"tontine/api"
	"tontine/ring"
)

// All threes of positions; where they stand in the row tells the answer.
func TestBetweenOfPositionsInOrder(t *testing.T) {
	for a, from := range positions {
		for b, to := range positions {
			for x, p := range positions {
				want := a < x && x < b
				if a > b {
					want = x > a || x < b
				}
				if a == b {
					want = x != a
				}
				if got := ring.Between(from, p, to); got != want {
					t.Errorf("Between(%v, %v, %v): %t", from, p, to, got)
				}
			}
		}
	}
}

// Nothing is between a position and its direct successor, and all but the two are between that one and the position.
func TestBetweenAtDirectSuccessors(t *testing.T) {
	for _, a := range positions {
		b := next(a)
		for _, x := range append([]api.Pos{a, b, next(b)}, positions...) {
			if ring.Between(a, x, b) {
				t.Errorf("%v is between %v and %v", x, a, b)
			}
			if got := ring.Between(b, x, a); got != (x != a && x != b) {
				t.Errorf("Between(%v, %v, %v): %t", b, x, a, got)
			}
		}
		if c := next(b); !ring.Between(a, b, c) || ring.Between(a, a, c) || ring.Between(a, c, c) {
			t.Errorf("between %v and %v", a, c)
		}
	}
}

// next is a position's direct successor.
func next(p api.Pos) api.Pos {
	p.Lo++
	if p.Lo == 0 {
		p.Hi++
	}
	return p
}

// The greatest position is followed by the least one.
func TestBetweenRoundTheEnd(t *testing.T) {
	const most = math.MaxUint64
	greatest, least := api.Pos{Hi: most, Lo: most}, api.Pos{}
	before, behind := api.Pos{Hi: most, Lo: most - 1}, api.Pos{Lo: 1}
	for _, row := range []struct {
		a, x, b api.Pos
		want    bool
	}{
		{greatest, least, behind, true}, {before, greatest, least, true}, {before, least, behind, true}, {before, greatest, behind, true},
		{greatest, behind, least, false}, {before, greatest, greatest, false}, {greatest, greatest, least, false}, {greatest, least, least, false},
		{least, greatest, behind, false}, {behind, greatest, least, true}, {behind, least, greatest, false}, {least, behind, greatest, true},
		{greatest, least, greatest, true}, {least, greatest, least, true}, {greatest, greatest, greatest, false}, {least, least, least, false},
	} {
		if got := ring.Between(row.a, row.x, row.b); got != row.want {
			t.Errorf("Between(%v, %v, %v): %t", row.a, row.x, row.b, got)
		}
	}
}

func TestBetweenByDistances(t *testing.T) {
	r := rand.New(rand.NewPCG(12, 1))
	draw := func() api.Pos {
		p := api.Pos{Hi: uint64(r.IntN(3)) - 1, Lo: uint64(r.IntN(3)) - 1}
		switch r.IntN(4) {
		case 0:
			p.Hi = r.Uint64()
		case 1:
			p.Lo = r.Uint64()
		case 2:
			p = api.Pos{Hi: r.Uint64(), Lo: r.Uint64()}
		}
		return p
	}
	for range 300000 {
		a, x, b := draw(), draw(), draw()
		if got := ring.Between(a, x, b); got != isBetween(a, x, b) {
			t.Fatalf("Between(%v, %v, %v): %t", a, x, b, got)
		}
	}
}
