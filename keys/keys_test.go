package keys_test

import (
	"fmt"
	"math"
	"math/big"
	"slices"
	"strings"
	"testing"

	"tontine/api"
	"tontine/keys"
)

// The calls, as the chapter lists them.
var (
	_ func(string) bool                          = keys.MayKey
	_ func(string) bool                          = keys.MayValue
	_ func(string) api.Pos                       = keys.Of
	_ func(a, b api.Pos) int                     = keys.Cmp
	_ func(api.Pos, int) (api.Pos, api.Errno)    = keys.Symmetric
	_ func(api.Pos) int                          = keys.Bucket
	_ func(string) int                           = keys.KeyBucket
	_ func(int, int) (int, api.Errno)            = keys.Place
	_ func(int, int) (int, api.Errno)            = keys.BucketAt
	_ func(int) ([4]int, api.Errno)              = keys.Homes
	_ func(string, string) (int, int, api.Errno) = keys.Span
	_ func([4]bool) bool                         = keys.Enough
)

const last = math.MaxUint64

// outside are numbers that are no bucket, no place and no replica.
var outside = []int{-1, -2, -16, -63, -64, -65, 64, 65, 128, 1 << 32, math.MaxInt, math.MaxInt - 1, math.MinInt, math.MinInt + 1}

// texts are keys at all edges, and texts that are no keys.
func texts() []string {
	l := []string{
		"", "\x00", "\x00\x00", "\x01", "\x03\xff", "\x04", "\x07\xff", "\x08", "\x7f", "\x80", "\xfb\xff", "\xfc", "\xff",
		"a", "a\x00", "a\x01", "aa", "ab", "b", "q", "zebra", "\u00e4\u4e16", "\xc3\x28",
		"0123456", "01234567", "012345678", "0123456789abcde", "0123456789abcdef",
		"0123456789abcdef\x00", "0123456789abcdefX", "0123456789abcdefXYZ", "0123456789abcdeg", "01234568",
	}
	for _, n := range []int{7, 8, 9, 15, 16, 17, 31, 32, 33, 1000} {
		for _, c := range []string{"\x00", "k", "\xff"} {
			l = append(l, strings.Repeat(c, n))
		}
		l = append(l, strings.Repeat("\x00", n-1)+"\x01", strings.Repeat("\xff", n-1)+"\xfe")
	}
	return l
}

// positions are those of all texts, and some that lie at the edges of words, buckets and quarters.
func positions() []api.Pos {
	var l []api.Pos
	for _, s := range texts() {
		l = append(l, keys.Of(s))
	}
	for _, lo := range []uint64{0, 1, 1 << 63, last - 1, last} {
		for _, hi := range []uint64{0, 1, last - 1, last} {
			l = append(l, api.Pos{Hi: hi, Lo: lo})
		}
		for b := range uint64(64) {
			l = append(l, api.Pos{Hi: b << 58, Lo: lo}, api.Pos{Hi: b<<58 + (1<<58 - 1), Lo: lo})
		}
	}
	return l
}

func number(p api.Pos) *big.Int {
	n := new(big.Int).SetUint64(p.Hi)
	return n.Lsh(n, 64).Or(n, new(big.Int).SetUint64(p.Lo))
}

// position is the position of a key by its bytes, one by one.
func position(key string) *big.Int {
	padded := key + strings.Repeat("\x00", 16)
	return new(big.Int).SetBytes([]byte(padded[:16]))
}

func TestMayKeyHoldsForOneToThirtyTwoBytes(t *testing.T) {
	for n := range 70 {
		for _, c := range []string{"k", "\x00", "\xff", " ", "\n"} {
			if got, want := keys.MayKey(strings.Repeat(c, n)), n >= 1 && n <= 32; got != want {
				t.Errorf("MayKey of %d times %q: %v, want %v", n, c, got, want)
			}
		}
	}
}

func TestMayValueHoldsForUpToSixtyFourBytes(t *testing.T) {
	for n := range 140 {
		for _, c := range []string{"v", "\x00", "\xff"} {
			if got, want := keys.MayValue(strings.Repeat(c, n)), n <= 64; got != want {
				t.Errorf("MayValue of %d times %q: %v, want %v", n, c, got, want)
			}
		}
	}
}

func TestLengthsAreCountedInBytes(t *testing.T) {
	const wide = "\u4e16" // a rune of three bytes
	for _, c := range []struct {
		runes      int
		key, value bool
	}{{10, true, true}, {11, false, true}, {21, false, true}, {22, false, false}} {
		s := strings.Repeat(wide, c.runes)
		if keys.MayKey(s) != c.key || keys.MayValue(s) != c.value {
			t.Errorf("%d bytes: MayKey %v, MayValue %v", len(s), keys.MayKey(s), keys.MayValue(s))
		}
	}
}

func TestOf(t *testing.T) {
	for _, c := range []struct {
		key  string
		want api.Pos
	}{
		{"", api.Pos{}},
		{"\x00", api.Pos{}},
		{"a", api.Pos{Hi: 0x6100000000000000}},
		{"\xff", api.Pos{Hi: 0xff00000000000000}},
		{"01234567", api.Pos{Hi: 0x3031323334353637}},
		{"012345678", api.Pos{Hi: 0x3031323334353637, Lo: 0x3800000000000000}},
		{"0123456789abcde", api.Pos{Hi: 0x3031323334353637, Lo: 0x3839616263646500}},
		{"0123456789abcdef", api.Pos{Hi: 0x3031323334353637, Lo: 0x3839616263646566}},
		{"0123456789abcdefX", api.Pos{Hi: 0x3031323334353637, Lo: 0x3839616263646566}},
		{"0123456789abcdef\xff\xff", api.Pos{Hi: 0x3031323334353637, Lo: 0x3839616263646566}},
		{strings.Repeat("\xff", 16), api.Pos{Hi: last, Lo: last}},
		{strings.Repeat("\xff", 33), api.Pos{Hi: last, Lo: last}},
	} {
		if got := keys.Of(c.key); got != c.want {
			t.Errorf("Of(%q): %x, want %x", c.key, got, c.want)
		}
	}
	for _, s := range texts() {
		if got, want := number(keys.Of(s)), position(s); got.Cmp(want) != 0 {
			t.Errorf("Of(%q): %x, want %x", s, got, want)
		}
	}
}

func TestOfEachByte(t *testing.T) {
	for at := range 40 {
		s := strings.Repeat("\x00", at) + "\x81"
		if got, want := number(keys.Of(s)), position(s); got.Cmp(want) != 0 {
			t.Errorf("Of with byte %d: %x, want %x", at, got, want)
		}
	}
}

func TestCmp(t *testing.T) {
	l := positions()
	for _, a := range l {
		for _, b := range l {
			if got, want := keys.Cmp(a, b), number(a).Cmp(number(b)); got != want {
				t.Fatalf("Cmp(%x, %x): %d, want %d", a, b, got, want)
			}
		}
	}
}

func TestSymmetric(t *testing.T) {
	ring := new(big.Int).Lsh(big.NewInt(1), 128)
	quarter := new(big.Int).Lsh(big.NewInt(1), 126)
	for _, p := range positions() {
		for i := range 4 {
			want := new(big.Int).Mul(quarter, big.NewInt(int64(i)))
			want.Mod(want.Add(want, number(p)), ring)
			if got, e := keys.Symmetric(p, i); e != api.OK || number(got).Cmp(want) != 0 {
				t.Fatalf("Symmetric(%x, %d): %x, %d, want %x", p, i, got, e, want)
			}
		}
	}
}

func TestSymmetricGoesRound(t *testing.T) {
	for _, c := range []struct {
		p    api.Pos
		i    int
		want api.Pos
	}{
		{api.Pos{Hi: 0xC000000000000000}, 1, api.Pos{}},
		{api.Pos{Hi: last, Lo: last}, 0, api.Pos{Hi: last, Lo: last}},
		{api.Pos{Hi: last, Lo: last}, 1, api.Pos{Hi: 0x3FFFFFFFFFFFFFFF, Lo: last}},
		{api.Pos{Hi: last, Lo: last}, 3, api.Pos{Hi: 0xBFFFFFFFFFFFFFFF, Lo: last}},
		{api.Pos{Hi: 0x4000000000000000, Lo: 7}, 2, api.Pos{Hi: 0xC000000000000000, Lo: 7}},
		{api.Pos{Hi: 0x4000000000000000, Lo: 7}, 3, api.Pos{Lo: 7}},
	} {
		if got, e := keys.Symmetric(c.p, c.i); got != c.want || e != api.OK {
			t.Errorf("Symmetric(%x, %d): %x, %d, want %x", c.p, c.i, got, e, c.want)
		}
	}
}

func TestSymmetricRefusesOtherReplicas(t *testing.T) {
	for _, i := range append([]int{4, 5, 63}, outside...) {
		if p, e := keys.Symmetric(api.Pos{Hi: 3, Lo: 5}, i); p != (api.Pos{}) || e != api.ErrArg {
			t.Errorf("Symmetric of %d: %x, %d", i, p, e)
		}
	}
}

func TestBucket(t *testing.T) {
	for b := range 64 {
		first := api.Pos{Hi: uint64(b) << 58}
		end := api.Pos{Hi: first.Hi + (1<<58 - 1), Lo: last}
		for _, p := range []api.Pos{first, {Hi: first.Hi, Lo: last}, {Hi: first.Hi + 1}, end} {
			if got := keys.Bucket(p); got != b {
				t.Errorf("Bucket(%x): %d, want %d", p, got, b)
			}
		}
	}
}

func TestKeyBucket(t *testing.T) {
	for c := range 256 {
		for _, rest := range []string{"", "\x00", "\xff", strings.Repeat("\xff", 31)} {
			if key := string([]byte{byte(c)}) + rest; keys.KeyBucket(key) != c/4 {
				t.Errorf("KeyBucket(%q): %d, want %d", key, keys.KeyBucket(key), c/4)
			}
		}
	}
	if keys.KeyBucket("") != 0 || keys.KeyBucket("a") != 24 {
		t.Errorf("KeyBucket of nothing: %d, of a: %d", keys.KeyBucket(""), keys.KeyBucket("a"))
	}
	for _, s := range texts() {
		if keys.KeyBucket(s) != keys.Bucket(keys.Of(s)) {
			t.Errorf("KeyBucket(%q): %d", s, keys.KeyBucket(s))
		}
	}
}

func TestPlaces(t *testing.T) {
	for b := range 64 {
		var want [4]int
		at := b
		for i := range 4 {
			want[i] = at
			if p, e := keys.Place(b, i); p != at || e != api.OK {
				t.Errorf("Place(%d, %d): %d, %d, want %d", b, i, p, e, at)
			}
			if back, e := keys.BucketAt(at, i); back != b || e != api.OK {
				t.Errorf("BucketAt(%d, %d): %d, %d, want %d", at, i, back, e, b)
			}
			if at += 16; at >= 64 {
				at -= 64
			}
		}
		if h, e := keys.Homes(b); h != want || e != api.OK {
			t.Errorf("Homes(%d): %v, %d, want %v", b, h, e, want)
		}
	}
}

func TestPlacesRefuseOtherNumbers(t *testing.T) {
	refused := func(what string, n int, e api.Errno) {
		t.Helper()
		if n != 0 || e != api.ErrArg {
			t.Errorf("%s: %d, %d", what, n, e)
		}
	}
	for _, x := range outside {
		for i := -1; i <= 4; i++ {
			p, e := keys.Place(x, i)
			refused(fmt.Sprintf("Place(%d, %d)", x, i), p, e)
			b, e := keys.BucketAt(x, i)
			refused(fmt.Sprintf("BucketAt(%d, %d)", x, i), b, e)
		}
		if h, e := keys.Homes(x); h != [4]int{} || e != api.ErrArg {
			t.Errorf("Homes(%d): %v, %d", x, h, e)
		}
	}
	for _, i := range append([]int{4, 5, 63}, outside...) {
		for x := range 64 {
			p, e := keys.Place(x, i)
			refused(fmt.Sprintf("Place(%d, %d)", x, i), p, e)
			b, e := keys.BucketAt(x, i)
			refused(fmt.Sprintf("BucketAt(%d, %d)", x, i), b, e)
		}
	}
}

func TestSpan(t *testing.T) {
	for _, c := range []struct {
		from, to    string
		first, last int
	}{
		{"", "", 0, 0},
		{"", "a", 0, 24},
		{"", "\xff", 0, 63},
		{"a", "a", 24, 24},
		{"a", "a\x00", 24, 24},
		{"a", "b", 24, 24},
		{"a", "q", 24, 28},
		{"\x03\xff", "\x04", 0, 1},
		{strings.Repeat("a", 40), strings.Repeat("z", 40), 24, 30},
	} {
		if a, b, e := keys.Span(c.from, c.to); a != c.first || b != c.last || e != api.OK {
			t.Errorf("Span(%q, %q): %d, %d, %d", c.from, c.to, a, b, e)
		}
	}
}

func TestSpanRefusesOnlyFallingRanges(t *testing.T) {
	for _, from := range texts() {
		for _, to := range texts() {
			a, b, e := keys.Span(from, to)
			switch strings.Compare(from, to) {
			case 1:
				if a != 0 || b != 0 || e != api.ErrArg {
					t.Errorf("Span(%q, %q): %d, %d, %d", from, to, a, b, e)
				}
			default:
				if a != keys.KeyBucket(from) || b != keys.KeyBucket(to) || e != api.OK {
					t.Errorf("Span(%q, %q): %d, %d, %d", from, to, a, b, e)
				}
			}
		}
	}
}

// sets are all sets of replicas.
func sets() [][4]bool {
	var l [][4]bool
	for n := range 16 {
		l = append(l, [4]bool{n&1 > 0, n&2 > 0, n&4 > 0, n&8 > 0})
	}
	return l
}

func size(l [4]bool) int {
	n := 0
	for _, is := range l {
		if is {
			n++
		}
	}
	return n
}

func TestEnough(t *testing.T) {
	for _, l := range sets() {
		if keys.Enough(l) != (size(l) >= 3) {
			t.Errorf("Enough(%v): %v", l, keys.Enough(l))
		}
	}
}

func TestOrder(t *testing.T) {
	l := texts()
	slices.Sort(l)
	for i, less := range l {
		for _, more := range l[i:] {
			if keys.Cmp(keys.Of(less), keys.Of(more)) > 0 {
				t.Errorf("the position of %q is above that of %q", less, more)
			}
			if keys.KeyBucket(less) > keys.KeyBucket(more) {
				t.Errorf("the bucket of %q is above that of %q", less, more)
			}
		}
	}
}

func TestSymmetricPositionsLieAtTheBucketsPlaces(t *testing.T) {
	for _, p := range positions() {
		homes, _ := keys.Homes(keys.Bucket(p))
		for i := range 4 {
			q, _ := keys.Symmetric(p, i)
			place, _ := keys.Place(keys.Bucket(p), i)
			if keys.Bucket(q) != place || homes[i] != place {
				t.Fatalf("replica %d of %x: bucket %d, place %d, home %d", i, p, keys.Bucket(q), place, homes[i])
			}
		}
	}
}

func TestHomesDiffer(t *testing.T) {
	for b := range 64 {
		h, _ := keys.Homes(b)
		slices.Sort(h[:])
		if len(slices.Compact(h[:])) != 4 {
			t.Errorf("the places of bucket %d are not four", b)
		}
	}
}

func TestBucketAtInvertsPlace(t *testing.T) {
	for n := range 64 {
		for i := range 4 {
			p, _ := keys.Place(n, i)
			if b, e := keys.BucketAt(p, i); b != n || e != api.OK {
				t.Errorf("BucketAt(Place(%d, %d)): %d, %d", n, i, b, e)
			}
			b, _ := keys.BucketAt(n, i)
			if p, e := keys.Place(b, i); p != n || e != api.OK {
				t.Errorf("Place(BucketAt(%d, %d)): %d, %d", n, i, p, e)
			}
		}
	}
}

func TestEachPlaceIsTheHomeOfFourBuckets(t *testing.T) {
	var at [64][]int
	for b := range 64 {
		h, _ := keys.Homes(b)
		for i, p := range h {
			at[p] = append(at[p], b)
			if found, _ := keys.BucketAt(p, i); found != b {
				t.Errorf("replica %d at place %d is of bucket %d, not %d", i, p, found, b)
			}
		}
	}
	for p, l := range at {
		slices.Sort(l)
		if len(l) != 4 || len(slices.Compact(l)) != 4 {
			t.Errorf("place %d is the home of %v", p, l)
		}
	}
}

func TestQuorumsShareTwo(t *testing.T) {
	for _, a := range sets() {
		for _, b := range sets() {
			var both [4]bool
			for i := range both {
				both[i] = a[i] && b[i]
			}
			if keys.Enough(a) && keys.Enough(b) && size(both) < 2 {
				t.Errorf("%v and %v are enough, and share %d", a, b, size(both))
			}
		}
	}
}

func TestAnswersHangOnArgumentsAlone(t *testing.T) {
	told := func() string {
		var s strings.Builder
		for _, k := range texts() {
			p, e := keys.Symmetric(keys.Of(k), 3)
			h, f := keys.Homes(keys.KeyBucket(k))
			fmt.Fprintln(&s, keys.MayKey(k), keys.MayValue(k), keys.Of(k), p, e, h, f)
		}
		for _, n := range append([]int{0, 3, 63}, outside...) {
			p, e := keys.Place(n, 2)
			b, f := keys.BucketAt(n, 2)
			h, g := keys.Homes(n)
			fmt.Fprintln(&s, p, e, b, f, h, g)
		}
		return s.String()
	}
	if told() != told() {
		t.Error("the same calls answered otherwise the second time")
	}
}
