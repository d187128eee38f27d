package arcs_test

import (
	"fmt"
	"math"
	"math/big"
	"math/bits"
	"math/rand/v2"
	"slices"
	"strings"
	"testing"

	"tontine/api"
	"tontine/arcs"
)

// The calls, as the chapter lists them.
var (
	_ func(api.Arc) bool                               = arcs.Right
	_ func(api.Arc, int) bool                          = arcs.Has
	_ func(a, b api.Arc) bool                          = arcs.Overlap
	_ func(api.Arc) []int                              = arcs.Places
	_ func(api.Arc, int) (api.Arc, api.Arc, api.Errno) = arcs.Split
	_ func(a, b api.Arc) (api.Arc, api.Errno)          = arcs.Join
	_ func([64]bool) []api.Arc                         = arcs.Of
	_ func(a, x, b api.Pos) bool                       = arcs.Between
)

const last = math.MaxUint64

// outside are numbers that are no place, whatever is taken off them in whole rounds.
var outside = []int{
	-1, -2, -16, -63, -64, -65, -128, 64, 65, 80, 127, 128, 192, 1 << 32, -1 << 32, 1<<32 + 5,
	math.MaxInt, math.MaxInt - 1, math.MaxInt - 63, math.MinInt, math.MinInt + 1, math.MinInt + 64,
}

// valid are all arcs that may be.
func valid() []api.Arc {
	var l []api.Arc
	for from := range 64 {
		for size := range 65 {
			l = append(l, api.Arc{From: from, Size: size})
		}
	}
	return l
}

// some are valid arcs at the edges of sizes and of the ring.
func some() []api.Arc {
	var l []api.Arc
	for _, from := range []int{0, 1, 2, 5, 31, 32, 33, 60, 62, 63} {
		for _, size := range []int{0, 1, 2, 3, 8, 31, 32, 33, 61, 62, 63, 64} {
			l = append(l, api.Arc{From: from, Size: size})
		}
	}
	return l
}

// invalid are arcs with one number or both outside; a size of 64 is none of those.
func invalid() []api.Arc {
	var l []api.Arc
	for _, x := range outside {
		for _, in := range []int{0, 1, 32, 63, 64} {
			l = append(l, api.Arc{From: x, Size: in})
			if x != 64 {
				l = append(l, api.Arc{From: min(in, 63), Size: x})
			}
		}
		for _, y := range outside {
			l = append(l, api.Arc{From: x, Size: y})
		}
	}
	return l
}

// mask has a bit for each place of a valid arc, which are walked one by one.
func mask(a api.Arc) uint64 {
	var m uint64
	at := a.From
	for n := 0; n < a.Size; n++ {
		m |= 1 << at
		if at++; at == 64 {
			at = 0
		}
	}
	return m
}

// array has true for each bit.
func array(m uint64) [64]bool {
	var in [64]bool
	for p := range in {
		in[p] = m>>p&1 > 0
	}
	return in
}

// behind is the place n places behind another one.
func behind(place, n int) int {
	for ; n > 0; n-- {
		if place++; place == 64 {
			place = 0
		}
	}
	return place
}

func TestRight(t *testing.T) {
	for from := -140; from <= 140; from++ {
		for size := -140; size <= 140; size++ {
			want := from >= 0 && from <= 63 && size >= 0 && size <= 64
			if got := arcs.Right(api.Arc{From: from, Size: size}); got != want {
				t.Errorf("Right({%d, %d}): %v", from, size, got)
			}
		}
	}
	for _, a := range invalid() {
		if arcs.Right(a) {
			t.Errorf("Right(%v)", a)
		}
	}
}

func TestHas(t *testing.T) {
	for _, a := range valid() {
		m := mask(a)
		for p := range 64 {
			if got, want := arcs.Has(a, p), m>>p&1 > 0; got != want {
				t.Errorf("Has(%v, %d): %v", a, p, got)
			}
		}
		for _, p := range outside {
			if arcs.Has(a, p) {
				t.Errorf("Has(%v, %d)", a, p)
			}
		}
	}
}

func TestHasOfThoseThatGoRound(t *testing.T) {
	for _, c := range []struct {
		a     api.Arc
		place int
		want  bool
	}{
		{api.Arc{From: 60, Size: 8}, 59, false},
		{api.Arc{From: 60, Size: 8}, 60, true},
		{api.Arc{From: 60, Size: 8}, 63, true},
		{api.Arc{From: 60, Size: 8}, 0, true},
		{api.Arc{From: 60, Size: 8}, 3, true},
		{api.Arc{From: 60, Size: 8}, 4, false},
		{api.Arc{From: 63, Size: 1}, 63, true},
		{api.Arc{From: 63, Size: 1}, 0, false},
		{api.Arc{From: 63, Size: 2}, 0, true},
		{api.Arc{From: 63, Size: 64}, 62, true},
		{api.Arc{From: 63, Size: 63}, 62, false},
		{api.Arc{From: 7, Size: 0}, 7, false},
		{api.Arc{From: 0, Size: 64}, 63, true},
		{api.Arc{From: 0, Size: 63}, 63, false},
	} {
		if got := arcs.Has(c.a, c.place); got != c.want {
			t.Errorf("Has(%v, %d): %v", c.a, c.place, got)
		}
	}
}

func TestInvalidArcsHaveNothing(t *testing.T) {
	for _, a := range invalid() {
		for p := range 64 {
			if arcs.Has(a, p) {
				t.Fatalf("Has(%v, %d)", a, p)
			}
		}
		for _, p := range outside {
			if arcs.Has(a, p) {
				t.Fatalf("Has(%v, %d)", a, p)
			}
		}
		if l := arcs.Places(a); len(l) > 0 {
			t.Fatalf("Places(%v): %v", a, l)
		}
	}
}

func TestOverlap(t *testing.T) {
	l := some()
	for _, a := range valid() {
		for _, b := range l {
			want := mask(a)&mask(b) != 0
			if arcs.Overlap(a, b) != want || arcs.Overlap(b, a) != want {
				t.Fatalf("Overlap of %v and %v: %v, and %v the other way", a, b, arcs.Overlap(a, b), arcs.Overlap(b, a))
			}
		}
	}
}

func TestOverlapOfNeighbours(t *testing.T) {
	for from := range 64 {
		for _, size := range []int{1, 2, 31, 63} {
			a := api.Arc{From: from, Size: size}
			rest := api.Arc{From: behind(from, size), Size: 64 - size}
			if arcs.Overlap(a, rest) || arcs.Overlap(rest, a) {
				t.Errorf("%v and %v overlap", a, rest)
			}
			rest.Size++
			if !arcs.Overlap(a, rest) || !arcs.Overlap(rest, a) {
				t.Errorf("%v and %v do not overlap", a, rest)
			}
		}
	}
}

func TestOverlapOfInvalidArcs(t *testing.T) {
	bad := invalid()
	for _, a := range bad {
		for _, b := range append(some(), a, bad[0], bad[len(bad)-1]) {
			if arcs.Overlap(a, b) || arcs.Overlap(b, a) {
				t.Fatalf("%v and %v overlap", a, b)
			}
		}
	}
}

func TestPlaces(t *testing.T) {
	for _, a := range valid() {
		l := arcs.Places(a)
		if len(l) != a.Size {
			t.Fatalf("Places(%v): %v", a, l)
		}
		for n, p := range l {
			if p != behind(a.From, n) {
				t.Fatalf("Places(%v): %v", a, l)
			}
		}
	}
	if l := arcs.Places(api.Arc{From: 62, Size: 4}); !slices.Equal(l, []int{62, 63, 0, 1}) {
		t.Errorf("Places of {62, 4}: %v", l)
	}
}

func TestSplit(t *testing.T) {
	for _, a := range valid() {
		for n := range a.Size + 1 {
			first, rest, e := arcs.Split(a, n)
			wantFirst, wantRest := api.Arc{From: a.From, Size: n}, api.Arc{From: behind(a.From, n), Size: a.Size - n}
			if first != wantFirst || rest != wantRest || e != api.OK {
				t.Fatalf("Split(%v, %d): %v, %v, %d", a, n, first, rest, e)
			}
		}
	}
}

func TestSplitAtTheEdges(t *testing.T) {
	for _, c := range []struct {
		a           api.Arc
		n           int
		first, rest api.Arc
	}{
		{api.Arc{From: 60, Size: 8}, 4, api.Arc{From: 60, Size: 4}, api.Arc{From: 0, Size: 4}},
		{api.Arc{From: 60, Size: 8}, 0, api.Arc{From: 60, Size: 0}, api.Arc{From: 60, Size: 8}},
		{api.Arc{From: 60, Size: 8}, 8, api.Arc{From: 60, Size: 8}, api.Arc{From: 4, Size: 0}},
		{api.Arc{From: 9, Size: 0}, 0, api.Arc{From: 9, Size: 0}, api.Arc{From: 9, Size: 0}},
		{api.Arc{From: 63, Size: 1}, 1, api.Arc{From: 63, Size: 1}, api.Arc{From: 0, Size: 0}},
		{api.Arc{From: 0, Size: 64}, 64, api.Arc{From: 0, Size: 64}, api.Arc{From: 0, Size: 0}},
		{api.Arc{From: 5, Size: 64}, 64, api.Arc{From: 5, Size: 64}, api.Arc{From: 5, Size: 0}},
		{api.Arc{From: 5, Size: 64}, 63, api.Arc{From: 5, Size: 63}, api.Arc{From: 4, Size: 1}},
	} {
		if first, rest, e := arcs.Split(c.a, c.n); first != c.first || rest != c.rest || e != api.OK {
			t.Errorf("Split(%v, %d): %v, %v, %d", c.a, c.n, first, rest, e)
		}
	}
}

func TestSplitRefusesNumbersOutside(t *testing.T) {
	refused := func(a api.Arc, n int) {
		t.Helper()
		if first, rest, e := arcs.Split(a, n); first != (api.Arc{}) || rest != (api.Arc{}) || e != api.ErrArcsRange {
			t.Fatalf("Split(%v, %d): %v, %v, %d", a, n, first, rest, e)
		}
	}
	for _, a := range valid() {
		refused(a, a.Size+1)
		for _, n := range outside {
			if n != 64 || a.Size < 64 {
				refused(a, n)
			}
		}
	}
	for _, a := range invalid() {
		for _, n := range append([]int{0, 1, 63, 64, a.Size, a.From}, outside...) {
			refused(a, n)
		}
	}
}

func TestJoin(t *testing.T) {
	for _, a := range valid() {
		from := behind(a.From, a.Size)
		for size := range 65 {
			b := api.Arc{From: from, Size: size}
			want, wantErr := api.Arc{From: a.From, Size: a.Size + size}, api.OK
			if a.Size+size > 64 {
				want, wantErr = api.Arc{}, api.ErrArcsRange
			}
			if got, e := arcs.Join(a, b); got != want || e != wantErr {
				t.Fatalf("Join(%v, %v): %v, %d", a, b, got, e)
			}
		}
	}
}

func TestJoinRefusesArcsThatDoNotMeet(t *testing.T) {
	l := some()
	for _, a := range valid() {
		for _, b := range l {
			want := api.OK
			switch {
			case a.Size+b.Size > 64: // before the other error, whether they meet or not
				want = api.ErrArcsRange
			case b.From != behind(a.From, a.Size):
				want = api.ErrArcsApart
			}
			if got, e := arcs.Join(a, b); e != want || e != api.OK && got != (api.Arc{}) {
				t.Fatalf("Join(%v, %v): %v, %d", a, b, got, e)
			}
		}
	}
}

func TestJoinAtTheEdges(t *testing.T) {
	for _, c := range []struct {
		a, b, want api.Arc
		err        api.Errno
	}{
		{api.Arc{From: 60, Size: 4}, api.Arc{From: 0, Size: 4}, api.Arc{From: 60, Size: 8}, api.OK},
		{api.Arc{From: 0, Size: 4}, api.Arc{From: 60, Size: 4}, api.Arc{}, api.ErrArcsApart},
		{api.Arc{From: 5, Size: 0}, api.Arc{From: 5, Size: 0}, api.Arc{From: 5, Size: 0}, api.OK},
		{api.Arc{From: 5, Size: 0}, api.Arc{From: 6, Size: 0}, api.Arc{}, api.ErrArcsApart},
		{api.Arc{From: 5, Size: 0}, api.Arc{From: 5, Size: 64}, api.Arc{From: 5, Size: 64}, api.OK},
		{api.Arc{From: 5, Size: 64}, api.Arc{From: 5, Size: 0}, api.Arc{From: 5, Size: 64}, api.OK},
		{api.Arc{From: 5, Size: 64}, api.Arc{From: 6, Size: 0}, api.Arc{}, api.ErrArcsApart},
		{api.Arc{From: 5, Size: 64}, api.Arc{From: 5, Size: 1}, api.Arc{}, api.ErrArcsRange},
		{api.Arc{From: 5, Size: 64}, api.Arc{From: 6, Size: 1}, api.Arc{}, api.ErrArcsRange},
		{api.Arc{From: 5, Size: 32}, api.Arc{From: 37, Size: 32}, api.Arc{From: 5, Size: 64}, api.OK},
		{api.Arc{From: 5, Size: 32}, api.Arc{From: 37, Size: 33}, api.Arc{}, api.ErrArcsRange},
		{api.Arc{From: 5, Size: 32}, api.Arc{From: 36, Size: 32}, api.Arc{}, api.ErrArcsApart},
		{api.Arc{From: 0, Size: 64}, api.Arc{From: 64, Size: 0}, api.Arc{}, api.ErrArcsRange},
	} {
		if got, e := arcs.Join(c.a, c.b); got != c.want || e != c.err {
			t.Errorf("Join(%v, %v): %v, %d", c.a, c.b, got, e)
		}
	}
}

func TestJoinRefusesInvalidArcs(t *testing.T) {
	refused := func(a, b api.Arc) {
		t.Helper()
		if got, e := arcs.Join(a, b); got != (api.Arc{}) || e != api.ErrArcsRange {
			t.Fatalf("Join(%v, %v): %v, %d", a, b, got, e)
		}
	}
	bad := invalid()
	for _, a := range bad {
		for _, b := range some() {
			refused(a, b)
			refused(b, a)
		}
		for _, b := range bad {
			refused(a, b)
		}
	}
	// Sizes whose sum would look right, of arcs that would meet.
	for _, sizes := range [][2]int{{-1, 1}, {65, -1}, {70, -64}, {math.MinInt, math.MinInt}, {math.MaxInt, math.MinInt}, {math.MaxInt, -math.MaxInt}} {
		for from := range 64 {
			refused(api.Arc{From: from, Size: sizes[0]}, api.Arc{From: ((from+sizes[0])%64 + 64) % 64, Size: sizes[1]})
			refused(api.Arc{From: from, Size: sizes[1]}, api.Arc{From: ((from+sizes[1])%64 + 64) % 64, Size: sizes[0]})
		}
	}
}

// sets are sets of places at all edges, and some that fell as they would.
func sets() []uint64 {
	l := []uint64{0, last, 0x5555555555555555, 0xaaaaaaaaaaaaaaaa}
	for _, a := range valid() {
		l = append(l, mask(a))
		for _, b := range some() {
			l = append(l, mask(a)|mask(b))
		}
	}
	// All that six places on each side of the last one may hold, with and without the places between.
	for m := range uint64(1 << 12) {
		l = append(l, bits.RotateLeft64(m, 58), bits.RotateLeft64(last&^(1<<12-1)|m, 58))
	}
	r := rand.New(rand.NewPCG(2, 64))
	for range 20000 {
		a, b := r.Uint64(), r.Uint64()
		l = append(l, a, a&b, a|b)
	}
	return l
}

func TestOf(t *testing.T) {
	for _, m := range sets() {
		// There is an arc for each place that is in, and the place before it is not.
		var want []api.Arc
		for p := range 64 {
			if turned := bits.RotateLeft64(m, -p); turned&1 > 0 && turned>>63 == 0 {
				want = append(want, api.Arc{From: p, Size: bits.TrailingZeros64(^turned)})
			}
		}
		if m == last {
			want = []api.Arc{{From: 0, Size: 64}}
		}
		if got := arcs.Of(array(m)); !slices.Equal(got, want) {
			t.Fatalf("Of(%064b): %v, want %v", m, got, want)
		}
	}
}

func TestOfTellsExactlyThePlacesByFewestArcs(t *testing.T) {
	for _, m := range sets() {
		got := arcs.Of(array(m))
		var all uint64
		for i, a := range got {
			if a.From < 0 || a.From > 63 || a.Size < 1 || a.Size > 64 || i > 0 && a.From <= got[i-1].From {
				t.Fatalf("Of(%064b): %v", m, got)
			}
			all |= mask(a)
		}
		// No arc goes over a place that is missing, so there are as many as there are places before a gap.
		fewest := bits.OnesCount64(m &^ bits.RotateLeft64(m, -1))
		if m == last {
			fewest = 1
		}
		if all != m || len(got) != fewest {
			t.Fatalf("Of(%064b): %v, which is %064b", m, got, all)
		}
	}
}

func TestOfAtTheEdges(t *testing.T) {
	for _, c := range []struct {
		in   []int
		want []api.Arc
	}{
		{nil, nil},
		{[]int{0}, []api.Arc{{From: 0, Size: 1}}},
		{[]int{63}, []api.Arc{{From: 63, Size: 1}}},
		{[]int{63, 0}, []api.Arc{{From: 63, Size: 2}}},
		{[]int{62, 63, 0, 5}, []api.Arc{{From: 5, Size: 1}, {From: 62, Size: 3}}},
		{[]int{0, 62}, []api.Arc{{From: 0, Size: 1}, {From: 62, Size: 1}}},
		{[]int{1, 63}, []api.Arc{{From: 1, Size: 1}, {From: 63, Size: 1}}},
		{[]int{0, 1, 3, 4, 63}, []api.Arc{{From: 3, Size: 2}, {From: 63, Size: 3}}},
	} {
		var in [64]bool
		for _, p := range c.in {
			in[p] = true
		}
		if got := arcs.Of(in); !slices.Equal(got, c.want) {
			t.Errorf("Of %v: %v, want %v", c.in, got, c.want)
		}
	}
	for p := range 64 {
		in := array(last)
		in[p] = false
		if got := arcs.Of(in); !slices.Equal(got, []api.Arc{{From: behind(p, 1), Size: 63}}) {
			t.Errorf("Of all but %d: %v", p, got)
		}
	}
	if got := arcs.Of(array(last)); !slices.Equal(got, []api.Arc{{From: 0, Size: 64}}) {
		t.Errorf("Of all: %v", got)
	}
}

// positions lie at the edges of words and buckets, and just beside them.
func positions() []api.Pos {
	var l []api.Pos
	for _, hi := range []uint64{0, 1, 5, 1<<58 - 1, 1 << 58, 1 << 63, last - 1, last} {
		for _, lo := range []uint64{0, 1, 5, 9, 1 << 63, last - 1, last} {
			l = append(l, api.Pos{Hi: hi, Lo: lo})
		}
	}
	return l
}

func number(p api.Pos) *big.Int {
	n := new(big.Int).SetUint64(p.Hi)
	return n.Lsh(n, 64).Or(n, new(big.Int).SetUint64(p.Lo))
}

// way is how far it is up from a to b.
func way(a, b api.Pos) *big.Int {
	ring := new(big.Int).Lsh(big.NewInt(1), 128)
	n := new(big.Int).Sub(number(b), number(a))
	return n.Mod(n, ring)
}

func TestBetween(t *testing.T) {
	l := positions()
	for _, a := range l {
		for _, b := range l {
			whole := way(a, b)
			for _, x := range l {
				part := way(a, x)
				want := a == b || part.Sign() > 0 && part.Cmp(whole) <= 0
				if got := arcs.Between(a, x, b); got != want {
					t.Fatalf("Between(%x, %x, %x): %v", a, x, b, got)
				}
			}
		}
	}
}

func TestBetweenAtTheEnds(t *testing.T) {
	low := func(n uint64) api.Pos { return api.Pos{Lo: n} }
	top := api.Pos{Hi: last, Lo: last}
	for _, c := range []struct {
		a, x, b api.Pos
		want    bool
	}{
		{low(5), low(5), low(5), true},
		{low(5), low(4), low(5), true},
		{low(5), low(6), low(5), true},
		{low(5), top, low(5), true},
		{low(0), low(0), low(0), true},
		{top, low(0), top, true},
		{top, top, top, true},
		{low(5), low(4), low(9), false},
		{low(5), low(5), low(9), false},
		{low(5), low(6), low(9), true},
		{low(5), low(8), low(9), true},
		{low(5), low(9), low(9), true},
		{low(5), low(10), low(9), false},
		{low(9), low(8), low(5), false},
		{low(9), low(9), low(5), false},
		{low(9), low(10), low(5), true},
		{low(9), top, low(5), true},
		{low(9), low(0), low(5), true},
		{low(9), low(5), low(5), true},
		{low(9), low(6), low(5), false},
		{top, top, low(0), false},
		{top, low(0), low(0), true},
		{top, low(1), low(0), false},
		{low(0), low(0), top, false},
		{low(0), top, top, true},
		{api.Pos{Hi: 1, Lo: 9}, api.Pos{Hi: 2, Lo: 0}, api.Pos{Hi: 2, Lo: 5}, true},
		{api.Pos{Hi: 1, Lo: 9}, api.Pos{Hi: 1, Lo: 8}, api.Pos{Hi: 2, Lo: 5}, false},
		{api.Pos{Hi: 1, Lo: 9}, api.Pos{Hi: 2, Lo: 6}, api.Pos{Hi: 2, Lo: 5}, false},
	} {
		if got := arcs.Between(c.a, c.x, c.b); got != c.want {
			t.Errorf("Between(%x, %x, %x): %v", c.a, c.x, c.b, got)
		}
	}
}

func TestSplitPartsJoinToTheArc(t *testing.T) {
	for _, a := range valid() {
		for n := range a.Size + 1 {
			first, rest, _ := arcs.Split(a, n)
			if whole, e := arcs.Join(first, rest); whole != a || e != api.OK {
				t.Fatalf("Join of %v and %v: %v, %d, want %v", first, rest, whole, e, a)
			}
		}
	}
}

func TestEachPlaceIsInOneOfTheParts(t *testing.T) {
	for _, a := range some() {
		for n := range a.Size + 1 {
			first, rest, _ := arcs.Split(a, n)
			if arcs.Overlap(first, rest) {
				t.Fatalf("the parts %v and %v overlap", first, rest)
			}
			for p := range 64 {
				inFirst, inRest := arcs.Has(first, p), arcs.Has(rest, p)
				if inFirst && inRest || (inFirst || inRest) != arcs.Has(a, p) {
					t.Fatalf("place %d of %v: %v, %v", p, a, inFirst, inRest)
				}
			}
			if !slices.Equal(append(arcs.Places(first), arcs.Places(rest)...), arcs.Places(a)) {
				t.Fatalf("the places of %v and %v are not those of %v", first, rest, a)
			}
		}
	}
}

func TestOfPlacesIsTheArc(t *testing.T) {
	for _, a := range valid() {
		var in [64]bool
		for _, p := range arcs.Places(a) {
			in[p] = true
		}
		want := []api.Arc{a}
		switch a.Size {
		case 0:
			want = nil
		case 64:
			want = []api.Arc{{From: 0, Size: 64}}
		}
		if got := arcs.Of(in); !slices.Equal(got, want) {
			t.Fatalf("Of the places of %v: %v", a, got)
		}
	}
}

func TestEachPositionIsInOneOfTwoIntervals(t *testing.T) {
	l := positions()
	for _, a := range l {
		for _, b := range l {
			for _, x := range l {
				one, other := arcs.Between(a, x, b), arcs.Between(b, x, a)
				if a != b && one == other || a == b && !one {
					t.Fatalf("Between(%x, %x, %x): %v, and %v with its ends changed", a, x, b, one, other)
				}
			}
		}
	}
}

func TestResultsAreNew(t *testing.T) {
	a := api.Arc{From: 60, Size: 8}
	first := arcs.Places(a)
	for i := range first {
		first[i] = -1
	}
	if l := arcs.Places(a); !slices.Equal(l, []int{60, 61, 62, 63, 0, 1, 2, 3}) {
		t.Errorf("Places(%v) after a change of its first result: %v", a, l)
	}
	for _, m := range []uint64{5, last} {
		want := slices.Clone(arcs.Of(array(m)))
		clear(arcs.Of(array(m)))
		if l := arcs.Of(array(m)); !slices.Equal(l, want) {
			t.Errorf("Of(%064b) after a change of a result: %v", m, l)
		}
	}
}

func TestAnswersHangOnArgumentsAlone(t *testing.T) {
	l := append(some(), invalid()[:100]...)
	told := func() string {
		var s strings.Builder
		for i, a := range l {
			b := l[(i*7+3)%len(l)]
			x, y, e := arcs.Split(a, b.Size)
			j, f := arcs.Join(a, b)
			fmt.Fprintln(&s, arcs.Right(a), arcs.Has(a, b.From), arcs.Overlap(a, b), arcs.Places(a), x, y, e, j, f)
		}
		for _, m := range sets()[:500] {
			fmt.Fprintln(&s, arcs.Of(array(m)), arcs.Between(api.Pos{Hi: m}, api.Pos{Hi: m * 3}, api.Pos{Lo: m}))
		}
		return s.String()
	}
	if told() != told() {
		t.Error("the same calls answered otherwise the second time")
	}
}
