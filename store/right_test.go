package store_test

import (
	"math"
	"strings"
	"testing"

	"tontine/api"
	"tontine/store"
)

// right asks whether an item may be, and whether locks of it are taken so.
func right(t *testing.T, i api.Item, want bool) {
	t.Helper()
	if got := store.Right(i); got != want {
		t.Errorf("Right(%+v): %t", i, got)
	}
	s := store.New()
	for tx := range uint64(2) {
		e := api.ErrStoreForm
		if want && tx > 0 {
			e = api.ErrStoreNone
		}
		votesNot(t, s, 0, api.Lock{Tx: tx, Item: i}, e)
		decidesNot(t, s, 0, api.Lock{Tx: tx, Item: i}, e)
	}
}

func written(bucket int, l ...api.Entry) api.Item {
	return api.Item{Bucket: bucket, Write: true, Data: l, Incs: incs}
}

func TestRightOfBuckets(t *testing.T) {
	for bucket := -70; bucket < 200; bucket++ {
		right(t, api.Item{Bucket: bucket, Incs: incs}, bucket >= 0 && bucket <= lastBucket)
		right(t, written(bucket), bucket >= 0 && bucket <= lastBucket)
	}
	for _, bucket := range wrongNumbers {
		right(t, api.Item{Bucket: bucket, Incs: incs}, false)
		right(t, written(bucket), false)
	}
}

func TestRightOfVersions(t *testing.T) {
	for _, ver := range []uint32{0, 1, 2, 1 << 8, 1 << 16, 1 << 30, lastVer - 1, lastVer} {
		right(t, reads(1, 7, ver).Item, true)
		right(t, writes(1, 7, ver, "").Item, true)
	}
	for _, ver := range []uint32{lastVer + 1, lastVer + 2, 1<<31 + 1, greatest - 1, greatest} {
		right(t, reads(1, 7, ver).Item, false)
		right(t, writes(1, 7, ver, "").Item, false)
	}
}

// Of each set of replicas that were read: three are enough, whichever they are, and whatever their incarnations.
func TestRightOfIncs(t *testing.T) {
	for _, inc := range []uint32{1, 2, 1 << 8, 1 << 16, 1 << 31, greatest} {
		for set := range 16 {
			n, i := 0, reads(1, 9, 0).Item
			for replica := range 4 {
				i.Incs[replica] = 0
				if set>>replica&1 == 1 {
					i.Incs[replica] = inc
					n++
				}
			}
			right(t, i, n >= 3)
			i.Write, i.Data = true, entriesOf(9, 3, "v")
			right(t, i, n >= 3)
		}
	}
}

// What is not written has no entries, not even such as might be written.
func TestRightOfWhatIsNotWritten(t *testing.T) {
	i := reads(1, 24, 0).Item
	for _, l := range [][]api.Entry{nil, {}, make([]api.Entry, 0, 9)} {
		i.Data = l
		right(t, i, true)
	}
	for n := 1; n <= 9; n++ {
		i.Data = entriesOf(24, n, "v")
		right(t, i, false)
	}
	i.Data = []api.Entry{{}}
	right(t, i, false)
}

func TestRightOfHowMany(t *testing.T) {
	for n := range 20 {
		for _, bucket := range []int{0, 1, 24, 62, lastBucket} {
			right(t, written(bucket, entriesOf(bucket, n, "v")...), n <= mostEntries)
		}
	}
}

func TestRightOfKeys(t *testing.T) {
	for n := range 40 {
		// A text of zeros is of bucket 0, and so is the empty one.
		right(t, written(0, api.Entry{Key: strings.Repeat("\x00", n)}), n >= 1 && n <= 32)
		right(t, written(24, api.Entry{Key: strings.Repeat("a", n)}), n >= 1 && n <= 32)
		right(t, written(lastBucket, api.Entry{Key: strings.Repeat("\xff", n)}), n >= 1 && n <= 32)
	}
}

func TestRightOfValues(t *testing.T) {
	for n := range 70 {
		right(t, written(24, api.Entry{Key: "a", Value: strings.Repeat("v", n)}), n <= 64)
		right(t, written(24, api.Entry{Key: "a"}, api.Entry{Key: "b", Value: strings.Repeat("\x00", n)}), n <= 64)
	}
}

// Each key belongs to one bucket, by its first byte.
func TestRightOfKeysOfBuckets(t *testing.T) {
	for first := range 256 {
		key := string([]byte{byte(first), 'x'})
		for bucket := range lastBucket + 1 {
			if got := store.Right(written(bucket, api.Entry{Key: key})); got != (first/4 == bucket) {
				t.Errorf("%q in the bucket %d: %t", key, bucket, got)
			}
		}
	}
	right(t, written(24, api.Entry{Key: "a"}, api.Entry{Key: "c"}), true)
	right(t, written(24, api.Entry{Key: "a"}, api.Entry{Key: "d"}), false)
	right(t, written(25, api.Entry{Key: "a"}, api.Entry{Key: "d"}), false)
	right(t, written(24, api.Entry{Key: "_"}, api.Entry{Key: "a"}), false)
}

// The keys increase strictly, each behind the one before it.
func TestRightOfOrders(t *testing.T) {
	keys := []string{"`", "a", "a\x00", "a\x00\x00", "aa", "ab", "b", "bz", "c", "c\xff"}
	for i, first := range keys {
		for j, second := range keys {
			right(t, written(24, api.Entry{Key: first}, api.Entry{Key: second}), i < j)
			for k, third := range keys {
				right(t, written(24, api.Entry{Key: first}, api.Entry{Key: second}, api.Entry{Key: third}), i < j && j < k)
			}
		}
	}
	// A fault at each place of a long list.
	for at := range mostEntries - 1 {
		l := entriesOf(24, mostEntries, "v")
		l[at].Key = l[at+1].Key
		right(t, written(24, l...), false)
		l = entriesOf(24, mostEntries, "v")
		l[at], l[at+1] = l[at+1], l[at]
		right(t, written(24, l...), false)
		l = entriesOf(24, mostEntries, "v")
		l[at].Value = strings.Repeat("v", 65)
		right(t, written(24, l...), false)
	}
	// Long keys are compared to their ends, not by their positions.
	long := strings.Repeat("a", 31)
	right(t, written(24, api.Entry{Key: long + "a"}, api.Entry{Key: long + "b"}), true)
	right(t, written(24, api.Entry{Key: long + "b"}, api.Entry{Key: long + "a"}), false)
	right(t, written(24, api.Entry{Key: long + "a"}, api.Entry{Key: long + "a"}), false)
}

// What stands behind the length of a slice does not count.
func TestRightOfWhatIsBehindTheLength(t *testing.T) {
	l := entriesOf(24, 9, "v")
	right(t, written(24, l[:8]...), true)
	l[3].Key = ""
	right(t, written(24, l[:3]...), true)
	i := reads(1, 24, 0).Item
	i.Data = l[:0]
	right(t, i, true)
}

// Of a lock the number and the item count, and nothing else.
func TestLocksThatMayBe(t *testing.T) {
	s := opened(t, 24, 0)
	votesNot(t, s, 0, reads(0, 24, 0), api.ErrStoreForm)
	decidesNot(t, s, 0, writes(0, 24, 0, "v"), api.ErrStoreForm)
	for i, managers := range [][3]int{{}, {0, 0, 0}, {1, 2, 3}, {11, 10, 9}, {12, 13, 14}, {-1, -2, -3}, {math.MinInt, math.MaxInt, 0}} {
		l := reads(math.MaxUint64-uint64(i), 24, 0)
		l.Managers = managers
		votes(t, s, 0, l, api.VotePrepared)
		decides(t, s, 0, l, true)
	}
}
