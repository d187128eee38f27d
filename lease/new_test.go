package lease_test

import (
	"math"
	"testing"

	"tontine/api"
	"tontine/lease"
)

func TestNew(t *testing.T) {
	for nodes := 4; nodes <= 12; nodes++ {
		want := api.Table{Version: 1}
		for node := range nodes {
			want.Member[node] = true
		}
		for p := range places {
			// Rounded down: the greatest node whose 64 times is not beyond.
			node := 0
			for (node+1)*64 <= p*nodes {
				node++
			}
			want.Owner[p], want.Inc[p] = node, 1
		}
		for range 2 {
			if x := made(t, nodes); x != want {
				t.Errorf("New(%d): %v, want %v", nodes, x, want)
			}
		}
	}
}

// firsts are the first places of the nodes, written by hand.
func TestNewPlaceByPlace(t *testing.T) {
	firsts := map[int][]int{
		4:  {0, 16, 32, 48},
		5:  {0, 13, 26, 39, 52},
		6:  {0, 11, 22, 32, 43, 54},
		7:  {0, 10, 19, 28, 37, 46, 55},
		8:  {0, 8, 16, 24, 32, 40, 48, 56},
		9:  {0, 8, 15, 22, 29, 36, 43, 50, 57},
		10: {0, 7, 13, 20, 26, 32, 39, 45, 52, 58},
		11: {0, 6, 12, 18, 24, 30, 35, 41, 47, 53, 59},
		12: {0, 6, 11, 16, 22, 27, 32, 38, 43, 48, 54, 59},
	}
	for nodes, first := range firsts {
		x := made(t, nodes)
		for node, from := range first {
			end := places
			if node+1 < nodes {
				end = first[node+1]
			}
			for p := from; p < end; p++ {
				ownedBy(t, x, p, node, 1)
			}
			ownsArcs(t, x, node, api.Arc{From: from, Size: end - from})
			if !x.Member[node] || x.Renewed[node] != 0 {
				t.Errorf("New(%d): the node %d is a member: %t, with %d renewals", nodes, node, x.Member[node], x.Renewed[node])
			}
		}
		for node := nodes; node < mostNodes; node++ {
			if ownsArcs(t, x, node); x.Member[node] || x.Renewed[node] != 0 {
				t.Errorf("New(%d): the node %d is a member: %t, with %d renewals", nodes, node, x.Member[node], x.Renewed[node])
			}
		}
	}
}

func TestNewRefusesOtherNumbers(t *testing.T) {
	wrong := []int{math.MinInt, math.MinInt + 4, -(1 << 32) + 4, -256 + 4, -12, -4, -1, 0, 1, 2, 3, 13, 14, 16, 64, 256 + 4, 1<<16 + 4, 1 << 31, 1 << 32, 1<<32 + 4, math.MaxInt}
	for nodes := -300; nodes <= 600; nodes++ {
		if nodes < 4 || nodes > 12 {
			wrong = append(wrong, nodes)
		}
	}
	for _, nodes := range wrong {
		if x, e := lease.New(nodes); x != (api.Table{}) || e != api.ErrArg {
			t.Errorf("New(%d): %v, %d", nodes, x, e)
		}
	}
}
