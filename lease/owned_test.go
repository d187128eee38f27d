package lease_test

import (
	"math/rand/v2"
	"slices"
	"testing"

	"tontine/api"
	"tontine/lease"
)

// runs are the fewest arcs of places: each begins at a place whose one before is not among them.
func runs(in [places]bool) []api.Arc {
	var l []api.Arc
	begins := 0
	for p := range places {
		if !in[p] || in[(p+63)%64] {
			continue
		}
		begins++
		a := api.Arc{From: p}
		for in[(p+a.Size)%64] {
			a.Size++
		}
		l = append(l, a)
	}
	if begins == 0 && in[0] {
		return []api.Arc{{From: 0, Size: 64}}
	}
	return l
}

// owned holds Owned of all nodes, and of numbers that are no node's, against the book.
func (w *twins) owned() {
	w.t.Helper()
	for _, node := range append([]int{0, 1, 2, 3, 4, 5, 6, 7, 8, 9, 10, 11}, wrongNodes...) {
		var in [places]bool
		for p := range places {
			in[p] = w.b.owner(p) == node
		}
		if got, want := lease.Owned(w.x, node), runs(in); !slices.Equal(got, want) {
			w.t.Fatalf("%v: Owned of %d: %v, want %v", w.x, node, got, want)
		}
	}
}

func TestOwned(t *testing.T) {
	x := withOwners(t, 1, 1, 2, 3, 3, 3, 1)
	ownsArcs(t, x, 0, api.Arc{From: 7, Size: 57})
	ownsArcs(t, x, 1, api.Arc{From: 0, Size: 2}, api.Arc{From: 6, Size: 1})
	ownsArcs(t, x, 2, api.Arc{From: 2, Size: 1})
	ownsArcs(t, x, 3, api.Arc{From: 3, Size: 3})
	for node := 4; node < mostNodes; node++ {
		ownsArcs(t, x, node)
	}
}

// Arcs round the end of the ring come last, since they begin there.
func TestOwnedRoundTheEnd(t *testing.T) {
	x := withOwners(t, 0, 0, 5, 0, 4, 4)
	ownsArcs(t, x, 0, api.Arc{From: 3, Size: 1}, api.Arc{From: 6, Size: 60})
	x = applied(t, x, move(11, 0, 62, 3))
	ownsArcs(t, x, 11, api.Arc{From: 62, Size: 3})
	ownsArcs(t, x, 0, api.Arc{From: 1, Size: 1}, api.Arc{From: 3, Size: 1}, api.Arc{From: 6, Size: 56})
	x = applied(t, x, move(11, 0, 1, 1))
	ownsArcs(t, x, 11, api.Arc{From: 62, Size: 4})
	x = applied(t, x, move(11, 0, 3, 1))
	ownsArcs(t, x, 11, api.Arc{From: 3, Size: 1}, api.Arc{From: 62, Size: 4})
	x = applied(t, x, move(0, 11, 0, 1))
	ownsArcs(t, x, 11, api.Arc{From: 1, Size: 1}, api.Arc{From: 3, Size: 1}, api.Arc{From: 62, Size: 2})
}

func TestOwnedOfAllPlaces(t *testing.T) {
	for node := range mostNodes {
		x := withAll(t, 12, node)
		ownsArcs(t, x, node, api.Arc{From: 0, Size: 64})
		for other := range mostNodes {
			if other != node {
				ownsArcs(t, x, other)
			}
		}
		for lost := range places {
			y := applied(t, x, move((node+1)%12, node, lost, 1))
			ownsArcs(t, y, node, api.Arc{From: (lost + 1) % 64, Size: 63})
			ownsArcs(t, y, (node+1)%12, api.Arc{From: lost, Size: 1})
		}
	}
}

// Every other place is as many arcs as there may be.
func TestOwnedOfEveryOtherPlace(t *testing.T) {
	x := withAll(t, 4, 2)
	for p := 1; p < places; p += 2 {
		x = applied(t, x, take(3, 2, p, 1, 0))
	}
	var even, odd []api.Arc
	for p := range places {
		if p%2 == 0 {
			even = append(even, api.Arc{From: p, Size: 1})
		} else {
			odd = append(odd, api.Arc{From: p, Size: 1})
		}
	}
	ownsArcs(t, x, 2, even...)
	ownsArcs(t, x, 3, odd...)
}

func TestOwnedOfWhoIsNoNode(t *testing.T) {
	for nodes := 4; nodes <= 12; nodes++ {
		x := made(t, nodes)
		for _, node := range wrongNodes {
			ownsArcs(t, x, node)
		}
	}
}

func TestOwnedOfRandomTables(t *testing.T) {
	for seed := range uint64(60) {
		g := rand.New(rand.NewPCG(141, seed))
		var owners []int
		for len(owners) < places {
			node := g.IntN(mostNodes)
			for range 1 + g.IntN(6) {
				owners = append(owners, node)
			}
		}
		x := withOwners(t, owners[:places]...)
		for node := range mostNodes {
			var in [places]bool
			for p := range places {
				in[p] = owners[p] == node
			}
			ownsArcs(t, x, node, runs(in)...)
		}
	}
}
