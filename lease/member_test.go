package lease_test

import (
	"math"
	"testing"

	"tontine/api"
)

func TestRenew(t *testing.T) {
	for nodes := 4; nodes <= 12; nodes++ {
		x := made(t, nodes)
		for count := uint32(1); count <= 5; count++ {
			for node := range nodes {
				x = becomes(t, x, renew(node, count), func(y *api.Table) { y.Renewed[node] = count })
			}
		}
		for node := range nodes {
			mayNotRenew(t, x, node, 5)
		}
		for node := nodes; node < mostNodes; node++ {
			for count := range uint32(8) {
				refused(t, x, renew(node, count), api.ErrLeaseMember)
			}
		}
	}
}

// mayNotRenew tries all counts but the one that is one more than the renewals so far.
func mayNotRenew(t *testing.T, x api.Table, node int, renewed uint32) {
	t.Helper()
	near := []uint32{renewed - 2, renewed - 1, renewed, renewed + 2, renewed + 3, renewed + 1<<8 + 1, renewed + 1<<16 + 1, renewed + 1<<31 + 1}
	for _, count := range append(near, 0, 100, lastCount-1, lastCount, lastCount+1, math.MaxUint32-1, math.MaxUint32) {
		if count != renewed+1 {
			refused(t, x, renew(node, count), api.ErrLeaseCount)
		}
	}
	applied(t, x, renew(node, renewed+1))
}

func TestRenewByOneMore(t *testing.T) {
	x := made(t, 4)
	for renewed := range uint32(300) {
		mayNotRenew(t, x, 3, renewed)
		mayNotRenew(t, x, 0, 0)
		x = applied(t, x, renew(3, renewed+1))
	}
	for _, renewed := range []uint32{1<<16 - 2, 1<<16 - 1, 1 << 16, 1<<24 - 1, lastCount - 2, lastCount - 1} {
		x.Version, x.Renewed[2] = lastCount-1, renewed
		mayNotRenew(t, x, 2, renewed)
		becomes(t, x, renew(2, renewed+1), func(y *api.Table) { y.Renewed[2] = renewed + 1 })
	}
}

// No table has so many renewals; none is one more than the last number, not even 0.
func TestRenewBehindTheLastNumber(t *testing.T) {
	x := made(t, 4)
	x.Renewed[1] = math.MaxUint32
	for _, count := range []uint32{0, 1, lastCount, math.MaxUint32} {
		refused(t, x, renew(1, count), api.ErrLeaseCount)
	}
}

// The fields that a kind does not use do not count.
func TestFieldsThatAreNotUsed(t *testing.T) {
	x := applied(t, made(t, 5), renew(2, 1))
	for _, by := range append([]int{0, 2, 4, 5, 11}, wrongNodes...) {
		for _, arc := range append([]api.Arc{{}, {From: 0, Size: 1}, {From: 63, Size: 64}}, wrongArcs...) {
			for _, n := range []uint32{0, 1, 2, 7, math.MaxUint32} {
				with := func(d api.Decree) api.Decree {
					d.By, d.Arc = by, arc
					if d.Kind != api.DecreeRenew {
						d.Count = n
					}
					d.Seen = n
					return d
				}
				becomes(t, x, with(renew(2, 2)), func(y *api.Table) { y.Renewed[2] = 2 })
				becomes(t, x, with(join(7)), func(y *api.Table) { y.Member[7] = true })
				y := applied(t, x, join(7))
				becomes(t, y, with(leave(7)), func(z *api.Table) { z.Member[7] = false })
			}
		}
	}
	for _, n := range []uint32{0, 1, 2, 7, math.MaxUint32} {
		d := move(1, 0, 3, 2)
		d.Count, d.Seen = n, n
		becomes(t, x, d, func(y *api.Table) { y.Owner[3], y.Owner[4] = 1, 1 })
		d = take(1, 2, 30, 1, 1)
		d.Count = n
		becomes(t, x, d, func(y *api.Table) { y.Owner[30], y.Inc[30] = 1, 3 })
	}
}

func TestJoin(t *testing.T) {
	for nodes := 4; nodes <= 12; nodes++ {
		x := made(t, nodes)
		for node := range nodes {
			refused(t, x, join(node), api.ErrLeaseMember)
		}
		for node := lastNode; node >= nodes; node-- {
			x = becomes(t, x, join(node), func(y *api.Table) { y.Member[node] = true })
			refused(t, x, join(node), api.ErrLeaseMember)
			mayNotRenew(t, x, node, 0)
			ownsArcs(t, x, node)
		}
	}
}

func TestLeave(t *testing.T) {
	x := made(t, 4)
	for node := range 4 {
		refused(t, x, leave(node), api.ErrLeaseOwner)
	}
	for node := 4; node < mostNodes; node++ {
		refused(t, x, leave(node), api.ErrLeaseMember)
	}
	// Down to one place, wherever it is, and to none.
	for node := 1; node < 4; node++ {
		for last := range 16 {
			y := x
			for p := range 16 {
				if p != last {
					refused(t, y, leave(node), api.ErrLeaseOwner)
					y = applied(t, y, move(0, node, node*16+p, 1))
				}
			}
			refused(t, y, leave(node), api.ErrLeaseOwner)
			y = applied(t, y, take(0, node, node*16+last, 1, 0))
			y = becomes(t, y, leave(node), func(z *api.Table) { z.Member[node] = false })
			refused(t, y, leave(node), api.ErrLeaseMember)
			refused(t, y, renew(node, 1), api.ErrLeaseMember)
			refused(t, y, move(node, 0, 0, 1), api.ErrLeaseMember)
			refused(t, y, take(node, 0, 0, 1, 0), api.ErrLeaseMember)
		}
	}
}

// All members leave but one, which owns all and stays.
func TestAllButOneLeave(t *testing.T) {
	for nodes := 4; nodes <= 12; nodes++ {
		for stays := range nodes {
			x := made(t, nodes)
			for node := range nodes {
				if node == stays {
					continue
				}
				for p := range places {
					if x.Owner[p] == node {
						x = applied(t, x, move(stays, node, p, 1))
					}
				}
				x = applied(t, x, leave(node))
			}
			refused(t, x, leave(stays), api.ErrLeaseOwner)
			ownsArcs(t, x, stays, api.Arc{From: 0, Size: 64})
			becomes(t, x, renew(stays, 1), func(y *api.Table) { y.Renewed[stays] = 1 })
		}
	}
}

func TestWhoJoinsAgainHasNoRenewals(t *testing.T) {
	x := made(t, 4)
	for node := 4; node < mostNodes; node++ {
		x = applied(t, x, join(node))
		for count := uint32(1); count <= 3; count++ {
			x = applied(t, x, renew(node, count))
		}
	}
	for node := 4; node < mostNodes; node++ {
		y := applied(t, x, leave(node))
		for count := range uint32(6) {
			refused(t, y, renew(node, count), api.ErrLeaseMember)
		}
		y = applied(t, y, join(node))
		want := x.Renewed
		want[node] = 0
		if !y.Member[node] || y.Renewed != want {
			t.Errorf("the node %d joined again: a member %t, renewals %v, want %v", node, y.Member[node], y.Renewed, want)
		}
		mayNotRenew(t, y, node, 0)
		// What was seen of it the first time does not let anyone take its places now.
		y = applied(t, y, move(node, 0, 0, 4))
		for _, seen := range []uint32{1, 2, 3, 4} {
			refused(t, y, take(1, node, 0, 4, seen), api.ErrLeaseSeen)
		}
		applied(t, y, take(1, node, 0, 4, 0))
	}
}

// Leaving takes the membership away, and nothing more is said of it.
func TestLeaveKeepsTheRest(t *testing.T) {
	x := applied(t, applied(t, made(t, 4), join(9)), renew(9, 1))
	x = applied(t, x, take(9, 2, 40, 3, 0))
	x = applied(t, x, move(3, 9, 40, 3))
	becomes(t, x, leave(9), func(y *api.Table) { y.Member[9] = false })
}

func TestWrongKinds(t *testing.T) {
	x := made(t, 4)
	for _, kind := range wrongKinds {
		for _, d := range []api.Decree{renew(0, 1), renew(5, 1), join(4), join(0), leave(0), leave(5), move(1, 0, 0, 1), take(1, 0, 0, 16, 0), {}} {
			d.Kind = kind
			refused(t, x, d, api.ErrArg)
		}
	}
}

func TestWrongNodes(t *testing.T) {
	for _, x := range []api.Table{made(t, 4), made(t, 12)} {
		for _, node := range wrongNodes {
			for _, d := range []api.Decree{renew(node, 1), join(node), leave(node), move(node, 0, 0, 1), take(node, 0, 0, 1, 0)} {
				refused(t, x, d, api.ErrArg)
			}
		}
	}
}

// The node 11 is the last one.
func TestLastNode(t *testing.T) {
	x := made(t, 4)
	for _, d := range []api.Decree{renew(11, 1), leave(11), move(11, 0, 0, 1), take(11, 0, 0, 1, 0)} {
		refused(t, x, d, api.ErrLeaseMember)
	}
	x = applied(t, x, join(11))
	x = becomes(t, x, renew(11, 1), func(y *api.Table) { y.Renewed[11] = 1 })
	x = becomes(t, x, move(11, 0, 0, 1), func(y *api.Table) { y.Owner[0] = 11 })
	x = becomes(t, x, take(11, 3, 63, 1, 0), func(y *api.Table) { y.Owner[63], y.Inc[63] = 11, 5 })
	ownsArcs(t, x, 11, api.Arc{From: 63, Size: 2})
}

func TestLastVersion(t *testing.T) {
	x := applied(t, made(t, 4), join(5))
	may := []api.Decree{renew(0, 1), join(4), leave(5), move(1, 0, 0, 1), take(1, 0, 0, 1, 0)}
	for _, version := range []uint32{1<<16 - 1, 1 << 30, lastCount - 2, lastCount - 1} {
		x.Version = version
		for _, d := range may {
			if y := applied(t, x, d); d.Kind == api.DecreeTake && y.Inc[0] != version+1 {
				t.Errorf("taken at the version %d: the incarnation %d", version, y.Inc[0])
			}
		}
	}
	x.Version = lastCount
	may = append(may, renew(0, 2), renew(6, 1), join(0), leave(0), leave(6), move(6, 0, 0, 1), move(1, 0, 0, 0), move(0, 0, 0, 1), take(1, 0, 16, 1, 0), take(1, 0, 0, 1, 1), take(-1, 0, 0, 1, 0), api.Decree{})
	for _, d := range may {
		refused(t, x, d, api.ErrArg)
	}
	y := applied(t, made(t, 4), renew(0, 1))
	y.Version = lastCount - 1
	refused(t, applied(t, y, renew(0, 2)), renew(0, 3), api.ErrArg)
}
