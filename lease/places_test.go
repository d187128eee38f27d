package lease_test

import (
	"math"
	"testing"

	"tontine/api"
)

// placesOf are an arc's, which is walked step by step.
func placesOf(a api.Arc) []int {
	var l []int
	for p := a.From; len(l) < a.Size; p++ {
		if p == places {
			p = 0
		}
		l = append(l, p)
	}
	return l
}

// goes moves and takes an arc: both give the places away, and a take alone gives them incarnations.
func goes(t *testing.T, x api.Table, node, by int, a api.Arc) {
	t.Helper()
	becomes(t, x, move(node, by, a.From, a.Size), func(y *api.Table) {
		for _, p := range placesOf(a) {
			y.Owner[p] = node
		}
	})
	becomes(t, x, take(node, by, a.From, a.Size, x.Renewed[by]), func(y *api.Table) {
		for _, p := range placesOf(a) {
			y.Owner[p], y.Inc[p] = node, x.Version+1
		}
	})
}

func goesNot(t *testing.T, x api.Table, node, by int, a api.Arc, want api.Errno) {
	t.Helper()
	refused(t, x, move(node, by, a.From, a.Size), want)
	seen := uint32(0)
	if 0 <= by && by <= lastNode {
		seen = x.Renewed[by]
	}
	refused(t, x, take(node, by, a.From, a.Size, seen), want)
}

// All arcs that are valid, from each of four nodes to another one.
func TestMoveAndTakeOfAllArcs(t *testing.T) {
	x := made(t, 4)
	for from := range places {
		for size := 1; size <= places; size++ {
			a := api.Arc{From: from, Size: size}
			by := from / 16
			if from%16+size <= 16 {
				goes(t, x, (by+1)%4, by, a)
				goesNot(t, x, (by+1)%4, (by+2)%4, a, api.ErrLeaseOwner)
			} else {
				goesNot(t, x, (by+1)%4, by, a, api.ErrLeaseOwner)
				goesNot(t, x, by, (by+1)%4, a, api.ErrLeaseOwner)
			}
			goesNot(t, x, by, by, a, api.ErrLeaseOwner)
		}
		goesNot(t, x, 1, 0, api.Arc{From: from}, api.ErrArg)
	}
}

// withAll is a table of some nodes with all places in one node's hands.
func withAll(t *testing.T, nodes, node int) api.Table {
	t.Helper()
	x := made(t, nodes)
	for p := range places {
		if x.Owner[p] != node {
			x = applied(t, x, move(node, x.Owner[p], p, 1))
		}
	}
	return x
}

// Arcs up to the whole ring and round its end, which are one node's.
func TestMoveAndTakeFromWhoOwnsAll(t *testing.T) {
	for _, by := range []int{0, 3, 11} {
		x := withAll(t, 12, by)
		for from := range places {
			for _, size := range []int{1, 2, 31, 32, 33, 62, 63, 64} {
				a := api.Arc{From: from, Size: size}
				goes(t, x, 5, by, a)
				goesNot(t, x, by, by, a, api.ErrLeaseOwner)
				goesNot(t, x, 5, 6, a, api.ErrLeaseOwner)
			}
		}
	}
}

// Of each arc one place is another node's: the first one, the last one, one between, each of them.
func TestMoveAndTakeOfAllButOne(t *testing.T) {
	x := withAll(t, 12, 7)
	for lost := range places {
		y := applied(t, x, move(2, 7, lost, 1))
		for _, from := range []int{0, 1, 31, 60, 63, lost, (lost + 1) % places} {
			for _, size := range []int{1, 2, 8, 63, 64} {
				a, has := api.Arc{From: from, Size: size}, false
				for _, p := range placesOf(a) {
					has = has || p == lost
				}
				switch {
				case !has:
					goes(t, y, 4, 7, a)
				case size == 1:
					goes(t, y, 4, 2, a)
				default:
					goesNot(t, y, 4, 7, a, api.ErrLeaseOwner)
					goesNot(t, y, 7, 2, a, api.ErrLeaseOwner)
				}
			}
		}
	}
}

func TestMoveAndTakeOfWrongArcs(t *testing.T) {
	for _, x := range []api.Table{made(t, 4), withAll(t, 4, 0)} {
		for _, a := range wrongArcs {
			for _, by := range append([]int{0, 1, 2, 3, 4, 11}, wrongNodes...) {
				goesNot(t, x, 1, by, a, api.ErrArg)
			}
		}
		for from := range places {
			for _, by := range append([]int{0, 1, 2, 3, 4, 11}, wrongNodes...) {
				goesNot(t, x, 1, by, api.Arc{From: from}, api.ErrArg)
			}
		}
	}
}

// Who owns nothing has no place to give: who is no node, no member, or has none left.
func TestByWhoOwnsNothing(t *testing.T) {
	x := applied(t, made(t, 4), join(6))
	for _, by := range append([]int{4, 5, 6, 7, 10, 11}, wrongNodes...) {
		for p := range places {
			goesNot(t, x, 1, by, api.Arc{From: p, Size: 1}, api.ErrLeaseOwner)
			goesNot(t, x, 6, by, api.Arc{From: p, Size: 64}, api.ErrLeaseOwner)
		}
	}
	y := withAll(t, 4, 2)
	for p := range places {
		for _, by := range []int{0, 1, 3} {
			goesNot(t, y, 2, by, api.Arc{From: p, Size: 1}, api.ErrLeaseOwner)
			goesNot(t, y, (by+1)%4, by, api.Arc{From: p, Size: 1}, api.ErrLeaseOwner)
		}
	}
}

// A table may say what no table of New and Apply says: such owners own nothing all the same.
func TestOwnersThatAreNone(t *testing.T) {
	for _, node := range wrongNodes {
		x := made(t, 4)
		for p := range places {
			x.Owner[p] = node
		}
		goesNot(t, x, 1, node, api.Arc{From: 3, Size: 1}, api.ErrLeaseOwner)
		goesNot(t, x, 1, node, api.Arc{From: 0, Size: 64}, api.ErrLeaseOwner)
		ownsArcs(t, x, node)
	}
}

func TestByEqualToNode(t *testing.T) {
	for nodes := 4; nodes <= 12; nodes++ {
		x := made(t, nodes)
		for node := range mostNodes {
			for p := range places {
				a := api.Arc{From: p, Size: 1}
				switch {
				case node >= nodes:
					goesNot(t, x, node, node, a, api.ErrLeaseMember)
				case x.Owner[p] == node:
					goesNot(t, x, node, node, a, api.ErrLeaseOwner)
				default:
					goesNot(t, x, node, node, a, api.ErrLeaseOwner)
					goes(t, x, node, x.Owner[p], a)
				}
			}
		}
	}
}

func TestTakeSeesWhoHasNotRenewed(t *testing.T) {
	x := made(t, 4)
	for renewed := range uint32(40) {
		// The renewals of the taker and of others do not count.
		x = applied(t, x, renew(1, renewed+1))
		x = applied(t, x, renew(2, x.Renewed[2]+1))
		x = applied(t, x, renew(2, x.Renewed[2]+1))
		for _, seen := range []uint32{renewed - 1, renewed + 1, renewed + 2, renewed + 1<<8, renewed + 1<<16, renewed + 1<<31, x.Renewed[2], lastCount, math.MaxUint32} {
			if seen != renewed {
				refused(t, x, take(1, 0, 0, 16, seen), api.ErrLeaseSeen)
				refused(t, x, take(3, 0, 7, 1, seen), api.ErrLeaseSeen)
			}
		}
		y := becomes(t, x, take(1, 0, 0, 15, renewed), func(y *api.Table) {
			for p := range 15 {
				y.Owner[p], y.Inc[p] = 1, x.Version+1
			}
		})
		// A take is no renewal of anyone.
		applied(t, y, take(2, 0, 15, 1, renewed))
		x = applied(t, x, renew(0, renewed+1))
	}
}

func TestTakeOfGreatRenewals(t *testing.T) {
	x := made(t, 4)
	x.Version = lastCount - 1
	for _, renewed := range []uint32{255, 256, 65535, 65536, 1<<31 - 3, lastCount - 1, lastCount} {
		x.Renewed[3] = renewed
		refused(t, x, take(1, 3, 48, 16, renewed-1), api.ErrLeaseSeen)
		refused(t, x, take(1, 3, 48, 16, renewed+1), api.ErrLeaseSeen)
		goes(t, x, 1, 3, api.Arc{From: 48, Size: 16})
	}
}

// Move does not ask what was seen.
func TestMoveDoesNotAskForSeen(t *testing.T) {
	x := applied(t, applied(t, made(t, 4), renew(0, 1)), renew(0, 2))
	for _, seen := range []uint32{0, 1, 2, 3, math.MaxUint32} {
		d := move(3, 0, 0, 2)
		d.Seen = seen
		becomes(t, x, d, func(y *api.Table) { y.Owner[0], y.Owner[1] = 3, 3 })
	}
}

// Places that were taken at different versions keep these when they are moved together, and get one when they are taken.
func TestIncarnations(t *testing.T) {
	x := made(t, 4)
	x = applied(t, x, take(1, 0, 0, 1, 0))  // version 2
	x = applied(t, x, renew(2, 1))          // version 3
	x = applied(t, x, take(1, 0, 1, 2, 0))  // version 4
	x = applied(t, x, move(1, 0, 3, 1))     // version 5
	x = applied(t, x, take(1, 3, 62, 2, 0)) // version 6
	check := func(x api.Table, node int, incs ...uint32) {
		t.Helper()
		for i, p := range []int{62, 63, 0, 1, 2, 3} {
			ownedBy(t, x, p, node, incs[i])
		}
	}
	check(x, 1, 6, 6, 2, 4, 4, 1)
	x = applied(t, x, move(2, 1, 62, 6)) // version 7
	check(x, 2, 6, 6, 2, 4, 4, 1)
	x = applied(t, x, move(1, 2, 62, 6)) // version 8: back again
	check(x, 1, 6, 6, 2, 4, 4, 1)
	refused(t, x, take(3, 1, 62, 6, 1), api.ErrLeaseSeen)
	check(x, 1, 6, 6, 2, 4, 4, 1)
	x = applied(t, x, take(3, 1, 62, 6, 0)) // version 9
	check(x, 3, 9, 9, 9, 9, 9, 9)
	x = applied(t, x, take(1, 3, 63, 3, 0)) // version 10
	ownedBy(t, x, 62, 3, 9)
	ownedBy(t, x, 63, 1, 10)
	ownedBy(t, x, 0, 1, 10)
	ownedBy(t, x, 1, 1, 10)
	ownedBy(t, x, 2, 3, 9)
	ownedBy(t, x, 4, 0, 1)
}
