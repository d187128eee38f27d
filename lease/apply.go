package lease

import (
	"tontine/api"
	"tontine/arcs"
)

// Apply is the table behind a decree.
func Apply(t api.Table, d api.Decree) (api.Table, api.Errno) {
	if e := refusal(t, d); e != api.OK {
		return t, e
	}
	return behind(t, d), api.OK
}

// refusal is the first reason why a decree may not be.
func refusal(t api.Table, d api.Decree) api.Errno {
	if d.Kind < api.DecreeRenew || d.Kind > api.DecreeLeave || !isNode(d.Node) || t.Version >= api.MaxCount {
		return api.ErrArg
	}
	// Who joins must be no member yet; for all other kinds it must be one.
	if t.Member[d.Node] == (d.Kind == api.DecreeJoin) {
		return api.ErrLeaseMember
	}
	switch d.Kind {
	case api.DecreeRenew:
		// In 64 bits, so that 0 is not one more than the last number of 32.
		if uint64(d.Count) != uint64(t.Renewed[d.Node])+1 {
			return api.ErrLeaseCount
		}
	case api.DecreeLeave:
		if len(Owned(t, d.Node)) > 0 {
			return api.ErrLeaseOwner
		}
	case api.DecreeMove, api.DecreeTake:
		return refusalOfArc(t, d)
	}
	return api.OK
}

// refusalOfArc is the first reason why places may not go from one node to another.
func refusalOfArc(t api.Table, d api.Decree) api.Errno {
	if !arcs.Right(d.Arc) || d.Arc.Size == 0 {
		return api.ErrArg
	}
	if d.By == d.Node || !ownsAll(t, d.By, d.Arc) {
		return api.ErrLeaseOwner
	}
	if d.Kind == api.DecreeTake && t.Renewed[d.By] != d.Seen {
		return api.ErrLeaseSeen
	}
	return api.OK
}

// behind is the table behind a decree that may be.
func behind(t api.Table, d api.Decree) api.Table {
	t.Version++
	switch d.Kind {
	case api.DecreeRenew:
		t.Renewed[d.Node] = d.Count
	case api.DecreeJoin:
		t.Member[d.Node], t.Renewed[d.Node] = true, 0
	case api.DecreeLeave:
		t.Member[d.Node] = false
	case api.DecreeMove, api.DecreeTake:
		for _, place := range arcs.Places(d.Arc) {
			t.Owner[place] = d.Node
			// A move keeps incarnations, since what the place holds goes with it; who takes it must gather that anew.
			if d.Kind == api.DecreeTake {
				t.Inc[place] = t.Version
			}
		}
	}
	return t
}

// ownsAll tells whether all places of an arc are a node's.
func ownsAll(t api.Table, node int, a api.Arc) bool {
	for _, place := range arcs.Places(a) {
		if !owns(t, node, place) {
			return false
		}
	}
	return true
}
