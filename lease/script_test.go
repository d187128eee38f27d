package lease_test

import (
	"math"
	"math/rand/v2"
	"testing"

	"tontine/api"
	"tontine/lease"
)

// someDecree is one that often may be, and often lacks little.
func someDecree(g *rand.Rand, x api.Table) api.Decree {
	d := api.Decree{Kind: api.DecreeKind(1 + g.IntN(5)), Node: g.IntN(mostNodes), By: g.IntN(mostNodes)}
	if g.IntN(40) == 0 {
		d.Kind = wrongKinds[g.IntN(len(wrongKinds))]
	}
	if g.IntN(40) == 0 {
		d.Node = wrongNodes[g.IntN(len(wrongNodes))]
	}
	if g.IntN(8) > 0 && d.Node >= 0 && d.Node <= lastNode {
		// Whoever is the wrong one for the kind gives way to the next one that is right.
		for range mostNodes {
			if x.Member[d.Node] != (d.Kind == api.DecreeJoin) {
				break
			}
			d.Node = (d.Node + 1) % mostNodes
		}
		d.Count = x.Renewed[max(0, min(lastNode, d.Node))] + 1
	}
	d.Arc = someArc(g, x)
	if g.IntN(8) > 0 && 0 <= d.Arc.From && d.Arc.From < places {
		d.By = x.Owner[d.Arc.From]
	}
	if 0 <= d.By && d.By <= lastNode {
		d.Seen = x.Renewed[d.By]
	}
	switch g.IntN(24) {
	case 0:
		d.By = wrongNodes[g.IntN(len(wrongNodes))]
	case 1:
		d.By = d.Node
	case 2:
		d.Count += uint32(g.IntN(5)) - 2
		d.Seen += uint32(g.IntN(5)) - 2
	case 3:
		d.Count, d.Seen = g.Uint32(), g.Uint32()
	}
	return d
}

// someArc is often part of a run of one owner's places.
func someArc(g *rand.Rand, x api.Table) api.Arc {
	switch g.IntN(20) {
	case 0:
		return wrongArcs[g.IntN(len(wrongArcs))]
	case 1:
		return api.Arc{From: g.IntN(66) - 1, Size: g.IntN(67) - 1}
	case 2:
		return api.Arc{From: g.IntN(places)}
	}
	a := api.Arc{From: g.IntN(places)}
	for a.Size < places && x.Owner[(a.From+a.Size)%places] == x.Owner[a.From] {
		a.Size++
	}
	if g.IntN(3) > 0 {
		a.Size = 1 + g.IntN(a.Size)
	}
	if g.IntN(12) == 0 && a.Size < places {
		a.Size++
	}
	return a
}

func TestScripts(t *testing.T) {
	count, fails := map[api.DecreeKind]int{}, map[api.Errno]int{}
	for seed := range uint64(54) {
		g := rand.New(rand.NewPCG(14, seed))
		w := twinsOf(t, 4+int(seed%9))
		for range 300 {
			w.apply(someDecree(g, w.x))
		}
		w.owned()
		for kind, n := range w.count {
			count[kind] += n
		}
		for e, n := range w.fails {
			fails[e] += n
		}
	}
	for kind := api.DecreeRenew; kind <= api.DecreeLeave; kind++ {
		if count[kind] < 100 {
			t.Errorf("of the kind %d went well: %d", kind, count[kind])
		}
	}
	for _, e := range []api.Errno{api.ErrArg, api.ErrLeaseOwner, api.ErrLeaseSeen, api.ErrLeaseMember, api.ErrLeaseCount} {
		if fails[e] < 100 {
			t.Errorf("the error %d was answered: %d", e, fails[e])
		}
	}
}

// One script that goes on for long.
func TestLongScript(t *testing.T) {
	g := rand.New(rand.NewPCG(14, 1000))
	w := twinsOf(t, 6)
	for range 2000 {
		w.apply(someDecree(g, w.x))
	}
	w.owned()
}

// Renewals, places and members of all nodes are apart: what one does leaves those of the others alone.
func TestScriptOfRounds(t *testing.T) {
	w := twinsOf(t, 4)
	must := func(d api.Decree) {
		t.Helper()
		if e := w.apply(d); e != api.OK {
			t.Fatalf("%+v: %d", d, e)
		}
	}
	for round := range 6 {
		for node := 4; node < mostNodes; node++ {
			must(join(node))
			must(renew(node, 1))
			must(move(node, node-4-(node-4)/4*4, (node-4)%4*16+round*2+(node-4)/4, 1))
		}
		for node := 4; node < mostNodes; node++ {
			w.apply(leave(node))
			must(take((node+1)%4, node, (node-4)%4*16+round*2+(node-4)/4, 1, 1))
			must(move((node-4)%4, (node+1)%4, (node-4)%4*16+round*2+(node-4)/4, 1))
			must(leave(node))
		}
		for node := range 4 {
			must(renew(node, uint32(round+1)))
		}
	}
	w.owned()
}

// The order of the errors: all that may be wrong with a decree, together, on tables with members and places of every kind.
func TestOrderOfErrors(t *testing.T) {
	x := applied(t, applied(t, made(t, 5), join(8)), renew(0, 1))
	x = applied(t, x, renew(3, 1))
	x = applied(t, x, take(1, 0, 12, 1, 1))
	arcsOf := []api.Arc{{}, {From: 0, Size: 1}, {From: 0, Size: 12}, {From: 0, Size: 13}, {From: 12, Size: 1}, {From: 63, Size: 2}, {From: 60, Size: 4}, {From: 5, Size: 64}, {From: 63}, {From: 64}, {From: 64, Size: 1}, {From: -1, Size: 1}, {From: 3, Size: -1}, {From: 3, Size: 65}, {From: math.MinInt, Size: math.MaxInt}}
	nodes := []int{math.MinInt, -1, 0, 1, 3, 4, 5, 8, 11, 12, math.MaxInt}
	kinds := []api.DecreeKind{math.MinInt, -1, 0, 1, 2, 3, 4, 5, 6, math.MaxInt}
	seen := map[api.Errno]int{}
	for _, version := range []uint32{x.Version, lastCount - 1, lastCount} {
		x.Version = version
		for _, kind := range kinds {
			for _, node := range nodes {
				for _, by := range nodes {
					for _, a := range arcsOf {
						for n := range uint32(4) {
							for seenOf := range uint32(3) {
								d := api.Decree{Kind: kind, Node: node, By: by, Arc: a, Count: n, Seen: seenOf}
								want := first(faults(x, d))
								y, e := lease.Apply(x, d)
								if e != want || e != api.OK && y != x || e == api.OK && y.Version != version+1 {
									t.Fatalf("%v: Apply of %+v: %v, %d, want the error %d", x, d, y, e, want)
								}
								seen[e]++
							}
						}
					}
				}
			}
		}
	}
	for _, e := range []api.Errno{api.OK, api.ErrArg, api.ErrLeaseOwner, api.ErrLeaseSeen, api.ErrLeaseMember, api.ErrLeaseCount} {
		if seen[e] == 0 {
			t.Errorf("the error %d was never answered", e)
		}
	}
}

// Two faults at a time, each ahead of the other, by hand.
func TestOrderOfErrorsByHand(t *testing.T) {
	x := applied(t, made(t, 4), renew(0, 1))
	for _, c := range []struct {
		d    api.Decree
		want api.Errno
	}{
		{renew(7, 9), api.ErrLeaseMember},
		{renew(7, 0), api.ErrLeaseMember},
		{renew(-1, 9), api.ErrArg},
		{renew(0, 1), api.ErrLeaseCount},
		{leave(7), api.ErrLeaseMember},
		{leave(12), api.ErrArg},
		{move(7, 0, 64, 1), api.ErrLeaseMember},
		{move(7, 0, 0, 0), api.ErrLeaseMember},
		{move(7, 7, 0, 1), api.ErrLeaseMember},
		{move(12, 0, 0, 1), api.ErrArg},
		{move(1, 1, 0, 0), api.ErrArg},
		{move(1, 2, 0, 65), api.ErrArg},
		{move(1, -1, -1, 1), api.ErrArg},
		{move(1, 2, 0, 1), api.ErrLeaseOwner},
		{take(7, 0, 64, 1, 0), api.ErrLeaseMember},
		{take(7, 7, 0, 1, 9), api.ErrLeaseMember},
		{take(1, 0, 0, 0, 9), api.ErrArg},
		{take(1, 0, 0, 65, 9), api.ErrArg},
		{take(1, 1, 64, 1, 9), api.ErrArg},
		{take(1, 2, 0, 1, 9), api.ErrLeaseOwner},
		{take(1, 0, 0, 17, 9), api.ErrLeaseOwner},
		{take(0, 0, 0, 1, 9), api.ErrLeaseOwner},
		{take(1, -1, 0, 1, 9), api.ErrLeaseOwner},
		{take(1, 12, 0, 1, 0), api.ErrLeaseOwner},
		{take(1, 0, 0, 1, 9), api.ErrLeaseSeen},
		{take(1, 0, 0, 1, 0), api.ErrLeaseSeen},
		{take(1, 0, 0, 1, 2), api.ErrLeaseSeen},
		{take(1, 0, 0, 1, 1), api.OK},
	} {
		if c.want == api.OK {
			applied(t, x, c.d)
			continue
		}
		refused(t, x, c.d, c.want)
		last := x
		last.Version = lastCount
		refused(t, last, c.d, api.ErrArg)
		c.d.Kind = 0
		refused(t, x, c.d, api.ErrArg)
	}
}

// FuzzDecrees makes a script of the bytes: each four are a decree's.
func FuzzDecrees(f *testing.F) {
	f.Add(uint8(0), []byte{1, 0, 0, 0, 3, 0x10, 0, 16, 2, 0x21, 5, 1, 4, 9, 0, 0, 5, 9, 0, 0})
	f.Add(uint8(8), []byte{3, 0xb0, 59, 5, 3, 0x0b, 59, 64, 1, 11, 1, 0, 2, 0xf0, 0, 1})
	f.Fuzz(func(t *testing.T, nodes uint8, script []byte) {
		w := twinsOf(t, 4+int(nodes%9))
		for ; len(script) >= 4 && len(w.b.log) < 100; script = script[4:] {
			node, by := int(script[1]&15)-1, int(script[1]>>4)-1
			d := api.Decree{Kind: api.DecreeKind(script[0]%8) - 1, Node: node, By: by, Arc: api.Arc{From: int(int8(script[2])), Size: int(int8(script[3]))}}
			if 0 <= node && node <= lastNode {
				d.Count = w.x.Renewed[node] + 1 + uint32(script[0]>>6)
			}
			if 0 <= by && by <= lastNode {
				d.Seen = w.x.Renewed[by] + uint32(script[0]>>4&3)
			}
			w.apply(d)
		}
		w.owned()
	})
}

// FuzzApply takes any table and any decree: there is no panic, and beside an error the table is as it was.
func FuzzApply(f *testing.F) {
	f.Add(3, 1, 0, 0, 16, uint32(0), uint32(0), uint32(1), -1, uint32(1))
	f.Add(1, 11, -1, 63, 64, uint32(0), uint32(math.MaxUint32), uint32(math.MaxUint32), math.MaxInt, uint32(math.MaxUint32))
	f.Fuzz(func(t *testing.T, kind, node, by, from, size int, count, seen, version uint32, owner int, renewed uint32) {
		x := api.Table{Version: version}
		for p := range places {
			x.Owner[p], x.Inc[p] = owner+p%2, version
		}
		for node := range mostNodes {
			x.Member[node], x.Renewed[node] = node%3 > 0, renewed
		}
		d := api.Decree{Kind: api.DecreeKind(kind), Node: node, By: by, Arc: api.Arc{From: from, Size: size}, Count: count, Seen: seen}
		was := x
		y, e := lease.Apply(x, d)
		if x != was || e != api.OK && y != was {
			t.Errorf("%v: Apply of %+v: %v, %d", x, d, y, e)
		}
		if want := first(faults(x, d)); version <= lastCount && e != want {
			t.Errorf("%v: Apply of %+v: %d, want %d", x, d, e, want)
		}
		lease.Owned(x, owner)
		lease.Owned(x, node)
	})
}
