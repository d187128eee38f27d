package quorum_test

import (
	"math/rand/v2"
	"slices"
	"strconv"
	"testing"

	"tontine/api"
	"tontine/quorum"
	"tontine/store"
)

// triples are all three of the four replicas.
func triples() [][]int {
	return [][]int{{0, 1, 2}, {0, 1, 3}, {0, 2, 3}, {1, 2, 3}}
}

// Where three hold a version or a greater one, any three answers contain it or a greater one (P16.2).
func TestNewest(t *testing.T) {
	every(4, 5, func(versions []int) {
		for _, asked := range triples() {
			r := made(t, 24)
			for _, replica := range asked {
				adds(t, r, replica, told(1, uint32(versions[replica]), strconv.Itoa(versions[replica])))
			}
			i, data, e := r.Result()
			if e != api.OK || !slices.Equal(data, holding(strconv.Itoa(int(i.Ver)))) {
				t.Errorf("%v of %v: %v, %v, %d", asked, versions, i, data, e)
			}
			for _, know := range triples() {
				least := min(versions[know[0]], versions[know[1]], versions[know[2]])
				if int(i.Ver) < least {
					t.Errorf("%v of %v: %d, but %v hold %d", asked, versions, i.Ver, know, least)
				}
			}
		}
	})
}

// bucket is four replicas in four stores, which hear of every write but for one of them each time.
type bucket struct {
	t      *testing.T
	stores [4]*store.Store
}

func bucketOf(t *testing.T) *bucket {
	t.Helper()
	b := &bucket{t: t}
	for replica := range b.stores {
		b.stores[replica] = store.New()
		if e := b.stores[replica].Open(24, replica, uint32(replica+1), true); e != api.OK {
			t.Fatalf("Open: %d", e)
		}
	}
	return b
}

// read is what three replicas come to.
func (b *bucket) read(asked []int, round uint32) (api.Item, []api.Entry) {
	b.t.Helper()
	r, e := quorum.New(24, round)
	if e != api.OK {
		b.t.Fatalf("New: %d", e)
	}
	for _, replica := range asked {
		a, e := b.stores[replica].Read(24, replica)
		if e != api.OK {
			b.t.Fatalf("Read: %d", e)
		}
		addsNot(b.t, r, replica, a, api.ErrQuorumRound)
		a.Round = round
		adds(b.t, r, replica, a)
	}
	i, data, e := r.Result()
	if e != api.OK || !store.Right(i) {
		b.t.Errorf("Result: %v, %d, which is no item", i, e)
	}
	return i, data
}

// What was committed at three replicas is what any three answers tell, and the item is one that replicas vote on.
func TestNewestOfStores(t *testing.T) {
	g := rand.New(rand.NewPCG(16, 2))
	b := bucketOf(t)
	var data []api.Entry
	for ver := range uint32(40) {
		for _, asked := range triples() {
			i, l := b.read(asked, ver+1)
			if i.Ver != ver || !slices.Equal(l, data) {
				t.Fatalf("%v: %v, %v, want the version %d with %v", asked, i, l, ver, data)
			}
		}
		i, _ := b.read(triples()[g.IntN(4)], ver+1)
		data = holding(strconv.Itoa(int(ver)))
		i.Write, i.Data = true, data
		l := api.Lock{Tx: uint64(ver + 1), Managers: [3]int{0, 1, 2}, Item: i}
		for _, replica := range triples()[g.IntN(4)] {
			if i.Incs[replica] != 0 {
				if v, e := b.stores[replica].Vote(replica, l); v != api.VotePrepared || e != api.OK {
					t.Errorf("Vote(%d, %v): %d, %d", replica, l, v, e)
				}
			}
			if e := b.stores[replica].Decide(replica, l, true); e != api.OK {
				t.Errorf("Decide(%d, %v): %d", replica, l, e)
			}
		}
	}
}
