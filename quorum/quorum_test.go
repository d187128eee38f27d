package quorum_test

import (
	"math"
	"slices"
	"strings"
	"testing"

	"tontine/api"
	"tontine/quorum"
)

// The calls, as the chapter lists them.
var (
	_ func(int, uint32) (*quorum.Reader, api.Errno)                    = quorum.New
	_ func(*quorum.Reader, int, api.Answer) api.Errno                  = (*quorum.Reader).Add
	_ func(*quorum.Reader) (api.Item, []api.Entry, api.Errno)          = (*quorum.Reader).Result
	_ func(*quorum.Reader) []int                                       = (*quorum.Reader).Missing
	_ func(*quorum.Reader) (stale []int)                               = (*quorum.Reader).Stale
	_ func(bucket int, round uint32) (r *quorum.Reader, err api.Errno) = quorum.New
)

// Numbers of the chapter, written a second time.
const (
	lastBucket = 63
	enough     = 3
	greatest   = math.MaxUint32
)

// Numbers that are no bucket's and no replica's, some of which look like one in fewer bits.
var wrongNumbers = []int{math.MinInt, math.MinInt + 1, -(1 << 32), -(1 << 32) + 3, -256, -64, -4, -3, -1, 64, 65, 128, 255, 256, 257, 1 << 16, 1<<16 + 3, 1 << 31, 1 << 32, 1<<32 + 3, math.MaxInt - 1, math.MaxInt}

var wrongReplicas = append([]int{4, 5, 6, 8, 16, 63}, wrongNumbers...)

// Numbers without a sign that are at some edge.
var edges = []uint32{1, 2, 3, 4, 127, 128, 255, 256, 257, 1<<16 - 1, 1 << 16, 1<<16 + 1, 1<<31 - 2, 1<<31 - 1, 1 << 31, 1<<31 + 1, greatest - 1, greatest}

// holding is one entry that tells who holds it.
func holding(value string) []api.Entry { return []api.Entry{{Key: "a", Value: value}} }

// told is an answer of the round 7.
func told(inc, ver uint32, value string) api.Answer {
	return api.Answer{Round: 7, Inc: inc, Ver: ver, Data: holding(value)}
}

// made is a reader of the round 7.
func made(t *testing.T, bucket int) *quorum.Reader {
	t.Helper()
	r, e := quorum.New(bucket, 7)
	if r == nil || e != api.OK {
		t.Fatalf("New(%d, 7): %v, %d", bucket, r, e)
	}
	return r
}

func adds(t *testing.T, r *quorum.Reader, replica int, a api.Answer) {
	t.Helper()
	addsNot(t, r, replica, a, api.OK)
}

func addsNot(t *testing.T, r *quorum.Reader, replica int, a api.Answer, want api.Errno) {
	t.Helper()
	if e := r.Add(replica, a); e != want {
		t.Errorf("Add(%d, %v): %d, want %d", replica, a, e, want)
	}
}

func sameItems(a, b api.Item) bool {
	return a.Bucket == b.Bucket && a.Ver == b.Ver && a.Write == b.Write && a.Incs == b.Incs && len(a.Data) == 0 && len(b.Data) == 0
}

// results asks for the result of a reader.
func results(t *testing.T, r *quorum.Reader, want api.Item, data []api.Entry) {
	t.Helper()
	i, l, e := r.Result()
	if !sameItems(i, want) || !slices.Equal(l, data) || e != api.OK {
		t.Errorf("Result: %v, %v, %d, want %v, %v", i, l, e, want, data)
	}
}

// resultsNot asks for an error of Result.
func resultsNot(t *testing.T, r *quorum.Reader, want api.Errno) {
	t.Helper()
	i, l, e := r.Result()
	if !sameItems(i, api.Item{}) || len(l) != 0 || e != want {
		t.Errorf("Result: %v, %v, %d, want the error %d", i, l, e, want)
	}
}

// lists asks for those who have not answered and for those who are behind.
func lists(t *testing.T, r *quorum.Reader, missing, stale []int) {
	t.Helper()
	if m, s := r.Missing(), r.Stale(); !slices.Equal(m, missing) || !slices.Equal(s, stale) {
		t.Errorf("Missing, Stale: %v, %v, want %v, %v", m, s, missing, stale)
	}
}

var everyone = []int{0, 1, 2, 3}

func TestChaptersExample(t *testing.T) {
	r := made(t, 3)
	adds(t, r, 0, told(1, 5, "zero"))
	addsNot(t, r, 0, told(1, 5, "zero"), api.ErrQuorumTwice)
	addsNot(t, r, 1, api.Answer{Round: 6, Inc: 1, Ver: 5}, api.ErrQuorumRound)
	adds(t, r, 2, told(1, 4, "two"))
	adds(t, r, 3, told(2, 5, "three"))
	results(t, r, api.Item{Bucket: 3, Ver: 5, Incs: [4]uint32{1, 0, 1, 2}}, holding("zero"))
	lists(t, r, []int{1}, []int{2})
}

// A new reader has no answers.
func TestNew(t *testing.T) {
	for bucket := range lastBucket + 1 {
		for _, round := range edges {
			r, e := quorum.New(bucket, round)
			if r == nil || e != api.OK {
				t.Fatalf("New(%d, %d): %v, %d", bucket, round, r, e)
			}
			lists(t, r, everyone, nil)
			resultsNot(t, r, api.ErrQuorumFew)
		}
	}
}

func TestNewOfWhatMayNotBe(t *testing.T) {
	for _, bucket := range wrongNumbers {
		for _, round := range []uint32{0, 1, 7, greatest} {
			if r, e := quorum.New(bucket, round); r != nil || e != api.ErrArg {
				t.Errorf("New(%d, %d): %v, %d", bucket, round, r, e)
			}
		}
	}
	for bucket := range lastBucket + 1 {
		if r, e := quorum.New(bucket, 0); r != nil || e != api.ErrArg {
			t.Errorf("New(%d, 0): %v, %d", bucket, r, e)
		}
	}
}

// The bucket of the item is the reader's, and its round is what the answers must have.
func TestReadersOfAllBuckets(t *testing.T) {
	for bucket := range lastBucket + 1 {
		for _, round := range edges {
			r, e := quorum.New(bucket, round)
			if e != api.OK {
				t.Fatalf("New(%d, %d): %d", bucket, round, e)
			}
			for replica := range enough {
				adds(t, r, replica, api.Answer{Round: round, Inc: 1, Ver: 2, Data: holding("v")})
			}
			results(t, r, api.Item{Bucket: bucket, Ver: 2, Incs: [4]uint32{1, 1, 1, 0}}, holding("v"))
		}
	}
}

// On no reader everything is ErrArg or zero, whatever is given.
func TestNilReader(t *testing.T) {
	var r *quorum.Reader
	for _, a := range []api.Answer{{}, {Inc: 1}, told(1, 2, "v"), told(0, 2, "v")} {
		for _, replica := range append([]int{0, 1, 2, 3}, wrongReplicas...) {
			addsNot(t, r, replica, a, api.ErrArg)
		}
	}
	resultsNot(t, r, api.ErrArg)
	lists(t, r, nil, nil)
}

// Readers are apart from each other.
func TestReadersAreApart(t *testing.T) {
	one, two := made(t, 5), made(t, 5)
	for replica := range enough {
		adds(t, one, replica, told(1, 1, "one"))
	}
	lists(t, two, everyone, nil)
	resultsNot(t, two, api.ErrQuorumFew)
	for replica := range enough {
		adds(t, two, replica+1, told(2, 2, "two"))
	}
	results(t, one, api.Item{Bucket: 5, Ver: 1, Incs: [4]uint32{1, 1, 1, 0}}, holding("one"))
	results(t, two, api.Item{Bucket: 5, Ver: 2, Incs: [4]uint32{0, 2, 2, 2}}, holding("two"))
}

// Entries are told as they came, also such as no bucket may hold.
func TestEntriesAreToldAsTheyCame(t *testing.T) {
	many := make([]api.Entry, 20)
	for i := range many {
		many[i] = api.Entry{Key: "same", Value: strings.Repeat("v", i)}
	}
	for _, data := range [][]api.Entry{nil, {}, {{}}, holding(""), {{Key: "b", Value: "2"}, {Key: "a", Value: "1"}}, {{Key: strings.Repeat("k", 99), Value: strings.Repeat("v", 99)}}, {{Key: "\x00\xff", Value: "\xff\x00"}}, many} {
		for first := range 2 {
			r := made(t, 24)
			for replica := first; replica < first+enough; replica++ {
				a := told(1, 3, "other")
				if replica == first {
					a.Data = data
				}
				adds(t, r, replica, a)
			}
			i, l, e := r.Result()
			if i.Ver != 3 || !slices.Equal(l, data) || e != api.OK {
				t.Errorf("Result: %v, %v, %d, want %v", i, l, e, data)
			}
		}
	}
}
