package lease_test

import (
	"math"
	"slices"
	"testing"

	"tontine/api"
	"tontine/lease"
)

// The calls, as the chapter lists them.
var (
	_ func(nodes int) (api.Table, api.Errno)                 = lease.New
	_ func(t api.Table, d api.Decree) (api.Table, api.Errno) = lease.Apply
	_ func(t api.Table, node int) []api.Arc                  = lease.Owned
	_ func(now, sent uint64) bool                            = lease.Valid
	_ func(now, learnt uint64) bool                          = lease.MayTake
	_ [1]int                                                 = [lease.Term - 999]int{}
	_ [1]int                                                 = [lease.TakeTerm - 1224]int{}
	_ [1]int                                                 = [lease.Drift - 99]int{}
	_ uint64                                                 = lease.Term
	_ int8                                                   = lease.Drift
	_ float64                                                = lease.TakeTerm
)

// Numbers of the chapter, written a second time.
const (
	places    = 64
	mostNodes = 12
	lastNode  = 11
	lastCount = 1<<31 - 1
)

const greatest = math.MaxUint64

// wrongNodes are numbers that are no node's, or that look like a node's in fewer bits.
var wrongNodes = []int{
	math.MinInt, math.MinInt + 1, math.MinInt + 3, -(1 << 32), -(1 << 32) + 3, -256, -255, -64, -12, -2, -1,
	12, 13, 14, 15, 16, 19, 63, 64, 67, 255, 256, 257, 259, 1 << 16, 1<<16 + 3, 1 << 31, 1 << 32, 1<<32 + 1, 1<<32 + 3, math.MaxInt - 1, math.MaxInt,
}

// wrongKinds are numbers that are none of the five kinds.
var wrongKinds = []api.DecreeKind{
	math.MinInt, math.MinInt + 1, -(1 << 32) + 2, -256, -255, -5, -2, -1, api.DecreeNone,
	6, 7, 8, 9, 10, 13, 255, 256, 257, 258, 259, 1 << 31, 1 << 32, 1<<32 + 1, 1<<32 + 3, math.MaxInt - 1, math.MaxInt,
}

// wrongArcs are not valid.
var wrongArcs = []api.Arc{
	{From: -1, Size: 1}, {From: 64, Size: 1}, {From: 0, Size: -1}, {From: 0, Size: 65}, {From: 63, Size: 65},
	{From: -1, Size: 0}, {From: 64, Size: 0}, {From: -64, Size: 16}, {From: 65, Size: 1}, {From: 128, Size: 16},
	{From: math.MinInt, Size: 1}, {From: math.MaxInt, Size: 1}, {From: 0, Size: math.MinInt}, {From: 0, Size: math.MaxInt},
	{From: math.MinInt, Size: math.MinInt}, {From: math.MaxInt, Size: math.MaxInt}, {From: 1 << 32, Size: 1}, {From: 0, Size: 1<<32 + 1},
	{From: 0, Size: 128}, {From: 16, Size: -16},
}

func TestNumbersOfTheChapter(t *testing.T) {
	if api.OK != 0 || api.ErrArg != 1 || api.ErrLeaseOwner != 141 || api.ErrLeaseSeen != 142 || api.ErrLeaseMember != 143 || api.ErrLeaseCount != 144 {
		t.Error("the errors' numbers")
	}
	if api.Buckets != places || api.MaxNodes != mostNodes || api.MaxCount != lastCount {
		t.Error("the limits")
	}
	if api.DecreeNone != 0 || api.DecreeRenew != 1 || api.DecreeMove != 2 || api.DecreeTake != 3 || api.DecreeJoin != 4 || api.DecreeLeave != 5 {
		t.Error("the kinds' numbers")
	}
	if lease.Term != 1000 || lease.TakeTerm != 1225 || lease.Drift != 100 {
		t.Error("the terms")
	}
}

func TestRowsOfTheChapter(t *testing.T) {
	x := made(t, 4)
	for p := range places {
		ownedBy(t, x, p, p/16, 1)
	}
	ownsArcs(t, x, 0, api.Arc{From: 0, Size: 16})
	ownsArcs(t, x, 3, api.Arc{From: 48, Size: 16})

	y := applied(t, x, take(1, 0, 0, 16, 0))
	if y.Version != 2 {
		t.Errorf("the version behind a take: %d", y.Version)
	}
	for p := range 16 {
		ownedBy(t, y, p, 1, 2)
	}
	for p := 16; p < places; p++ {
		ownedBy(t, y, p, p/16, 1)
	}
	z := applied(t, y, renew(0, 1))
	if z.Renewed != [mostNodes]uint32{1} {
		t.Errorf("renewals: %v", z.Renewed)
	}
	refused(t, y, move(1, 0, 0, 1), api.ErrLeaseOwner)
	refused(t, z, move(1, 0, 0, 1), api.ErrLeaseOwner)
}

func renew(node int, count uint32) api.Decree {
	return api.Decree{Kind: api.DecreeRenew, Node: node, Count: count}
}

func join(node int) api.Decree { return api.Decree{Kind: api.DecreeJoin, Node: node} }

func leave(node int) api.Decree { return api.Decree{Kind: api.DecreeLeave, Node: node} }

func move(node, by, from, size int) api.Decree {
	return api.Decree{Kind: api.DecreeMove, Node: node, By: by, Arc: api.Arc{From: from, Size: size}}
}

func take(node, by, from, size int, seen uint32) api.Decree {
	return api.Decree{Kind: api.DecreeTake, Node: node, By: by, Arc: api.Arc{From: from, Size: size}, Seen: seen}
}

func made(t *testing.T, nodes int) api.Table {
	t.Helper()
	x, e := lease.New(nodes)
	if e != api.OK {
		t.Fatalf("New(%d): %d", nodes, e)
	}
	return x
}

// applied applies a decree twice, since the first time must leave nothing behind.
func applied(t *testing.T, x api.Table, d api.Decree) api.Table {
	t.Helper()
	was := x
	y, e := lease.Apply(x, d)
	if z, again := lease.Apply(x, d); z != y || again != e {
		t.Fatalf("Apply of %+v: %v, %d, the second time %v, %d", d, y, e, z, again)
	}
	if e != api.OK {
		t.Fatalf("Apply of %+v to %v: %d", d, x, e)
	}
	if x != was {
		t.Fatalf("Apply of %+v changed %v to %v", d, was, x)
	}
	if y.Version != was.Version+1 {
		t.Fatalf("Apply of %+v: the version %d behind %d", d, y.Version, was.Version)
	}
	return y
}

// becomes applies a decree and holds the whole table behind it against one that is made of the words.
func becomes(t *testing.T, x api.Table, d api.Decree, change func(*api.Table)) api.Table {
	t.Helper()
	want := x
	want.Version++
	change(&want)
	y := applied(t, x, d)
	if y != want {
		t.Fatalf("Apply of %+v to %v: %v, want %v", d, x, y, want)
	}
	return y
}

func refused(t *testing.T, x api.Table, d api.Decree, want api.Errno) {
	t.Helper()
	was := x
	for range 2 {
		if y, e := lease.Apply(x, d); e != want || y != was || x != was {
			t.Fatalf("Apply of %+v to %v: %v, %d, want the error %d", d, was, y, e, want)
		}
	}
}

func ownedBy(t *testing.T, x api.Table, place, node int, inc uint32) {
	t.Helper()
	if x.Owner[place] != node || x.Inc[place] != inc {
		t.Errorf("the place %d is the node %d's in %d, want %d's in %d", place, x.Owner[place], x.Inc[place], node, inc)
	}
}

func ownsArcs(t *testing.T, x api.Table, node int, want ...api.Arc) {
	t.Helper()
	was := x
	for range 2 {
		if got := lease.Owned(x, node); !slices.Equal(got, want) {
			t.Errorf("Owned of %d: %v, want %v", node, got, want)
		}
	}
	if x != was {
		t.Errorf("Owned of %d changed the table", node)
	}
}

// withOwners is a table of 12 members whose places are those of the nodes that are listed, place by place; the rest is node 0's.
func withOwners(t *testing.T, owners ...int) api.Table {
	t.Helper()
	x := made(t, 12)
	for p := range places {
		to := 0
		if p < len(owners) {
			to = owners[p]
		}
		if x.Owner[p] != to {
			x = applied(t, x, move(to, x.Owner[p], p, 1))
		}
	}
	return x
}
