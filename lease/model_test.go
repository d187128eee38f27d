package lease_test

import (
	"math"
	"testing"

	"tontine/api"
	"tontine/lease"
)

// book is a table as the chapter has it: how many nodes it began with, and all decrees that were applied; what the table says is looked up in them anew each time.
type book struct {
	nodes int
	log   []api.Decree
}

func (b *book) version() uint32 { return uint32(1 + len(b.log)) }

func (b *book) member(node int) bool {
	is := node < b.nodes
	for _, d := range b.log {
		if d.Node == node && d.Kind == api.DecreeJoin {
			is = true
		}
		if d.Node == node && d.Kind == api.DecreeLeave {
			is = false
		}
	}
	return is
}

// renewals are those behind the last joining.
func (b *book) renewals(node int) uint32 {
	n := uint32(0)
	for i := len(b.log) - 1; i >= 0; i-- {
		if b.log[i].Node != node {
			continue
		}
		if b.log[i].Kind == api.DecreeJoin {
			break
		}
		if b.log[i].Kind == api.DecreeRenew {
			n++
		}
	}
	return n
}

// isIn asks for the place, and for the one that it would be a round further.
func isIn(a api.Arc, place int) bool {
	end := a.From + a.Size
	return a.From <= place && place < end || a.From <= place+places && place+places < end
}

func (b *book) owner(place int) int {
	for i := len(b.log) - 1; i >= 0; i-- {
		d := b.log[i]
		if (d.Kind == api.DecreeMove || d.Kind == api.DecreeTake) && isIn(d.Arc, place) {
			return d.Node
		}
	}
	return int(math.Floor(float64(place*b.nodes) / 64))
}

func (b *book) inc(place int) uint32 {
	for i := len(b.log) - 1; i >= 0; i-- {
		if d := b.log[i]; d.Kind == api.DecreeTake && isIn(d.Arc, place) {
			return uint32(i + 2)
		}
	}
	return 1
}

func (b *book) table() api.Table {
	x := api.Table{Version: b.version()}
	for p := range places {
		x.Owner[p], x.Inc[p] = b.owner(p), b.inc(p)
	}
	for node := range mostNodes {
		x.Member[node], x.Renewed[node] = b.member(node), b.renewals(node)
	}
	return x
}

// fault is an error and whether it applies.
type fault struct {
	is bool
	e  api.Errno
}

// faults are those of a decree on a table, in the chapter's order.
func faults(x api.Table, d api.Decree) []fault {
	known := d.Kind == api.DecreeRenew || d.Kind == api.DecreeJoin || d.Kind == api.DecreeLeave || d.Kind == api.DecreeMove || d.Kind == api.DecreeTake
	inRange := d.Node >= 0 && d.Node <= lastNode
	l := []fault{{!known, api.ErrArg}, {!inRange, api.ErrArg}, {x.Version == lastCount, api.ErrArg}}
	if !known || !inRange {
		return l
	}
	owned := func(node, place int) bool { return node >= 0 && node <= lastNode && x.Owner[place] == node }
	switch d.Kind {
	case api.DecreeJoin:
		return append(l, fault{x.Member[d.Node], api.ErrLeaseMember})
	case api.DecreeRenew:
		return append(l, fault{!x.Member[d.Node], api.ErrLeaseMember},
			fault{int64(d.Count)-1 != int64(x.Renewed[d.Node]), api.ErrLeaseCount})
	case api.DecreeLeave:
		has := false
		for p := range places {
			has = has || owned(d.Node, p)
		}
		return append(l, fault{!x.Member[d.Node], api.ErrLeaseMember}, fault{has, api.ErrLeaseOwner})
	}
	valid := d.Arc.From >= 0 && d.Arc.From <= 63 && d.Arc.Size >= 0 && d.Arc.Size <= 64
	l = append(l, fault{!x.Member[d.Node], api.ErrLeaseMember}, fault{!valid, api.ErrArg}, fault{d.Arc.Size == 0, api.ErrArg})
	if !valid || d.Arc.Size == 0 {
		return l
	}
	all := true
	for _, p := range placesOf(d.Arc) {
		all = all && owned(d.By, p)
	}
	l = append(l, fault{!all, api.ErrLeaseOwner}, fault{d.By == d.Node, api.ErrLeaseOwner})
	if d.Kind == api.DecreeTake && all {
		l = append(l, fault{x.Renewed[d.By] != d.Seen, api.ErrLeaseSeen})
	}
	return l
}

// first is the first error that applies.
func first(l []fault) api.Errno {
	for _, f := range l {
		if f.is {
			return f.e
		}
	}
	return api.OK
}

// twins are a table and its book, which get the same decrees.
type twins struct {
	t *testing.T
	x api.Table
	b book
	// top is the greatest incarnation so far, count how often each kind went well.
	top   uint32
	count map[api.DecreeKind]int
	fails map[api.Errno]int
}

func twinsOf(t *testing.T, nodes int) *twins {
	t.Helper()
	w := &twins{t: t, x: made(t, nodes), b: book{nodes: nodes}, top: 1, count: map[api.DecreeKind]int{}, fails: map[api.Errno]int{}}
	w.looks()
	return w
}

func (w *twins) apply(d api.Decree) api.Errno {
	w.t.Helper()
	was, want := w.x, first(faults(w.x, d))
	y, e := lease.Apply(w.x, d)
	if w.x != was {
		w.t.Fatalf("%v: Apply of %+v changed the table that was handed in to %v", was, d, w.x)
	}
	if e != want || e != api.OK && y != was {
		w.t.Fatalf("%v: Apply of %+v: %v, %d, want the error %d", was, d, y, e, want)
	}
	if e != api.OK {
		w.fails[e]++
		return e
	}
	w.count[d.Kind]++
	w.b.log = append(w.b.log, d)
	w.oneOwner(was, y, d)
	w.x = y
	w.looks()
	return e
}

func (w *twins) looks() {
	w.t.Helper()
	if want := w.b.table(); w.x != want {
		w.t.Fatalf("behind %+v: %v, want %v", w.b.log, w.x, want)
	}
}

// oneOwner is P14.2, looked at behind a decree.
func (w *twins) oneOwner(was, is api.Table, d api.Decree) {
	w.t.Helper()
	top := w.top
	var owners [places]int
	for node := -2; node <= 14; node++ {
		for _, a := range lease.Owned(is, node) {
			if node < 0 || node > lastNode || !is.Member[node] {
				w.t.Fatalf("%+v: the node %d owns %v and is no member", d, node, a)
			}
			for _, p := range placesOf(a) {
				owners[p]++
			}
		}
	}
	for p := range places {
		if owners[p] != 1 {
			w.t.Fatalf("%+v: the place %d has %d owners", d, p, owners[p])
		}
		if is.Inc[p] < was.Inc[p] || is.Inc[p] > was.Inc[p] && (d.Kind != api.DecreeTake || is.Inc[p] <= w.top) {
			w.t.Fatalf("%+v: the incarnation of the place %d went from %d to %d, the greatest one was %d", d, p, was.Inc[p], is.Inc[p], w.top)
		}
		top = max(top, is.Inc[p])
	}
	w.top = top
}
