package acceptor_test

import (
	"math"
	"strings"
	"testing"

	"tontine/acceptor"
	"tontine/api"
)

// The calls, as the chapter lists them.
var (
	_ func(api.Ballot, api.Ballot) bool                                                             = acceptor.Less
	_ func(int) (*acceptor.Table, api.Errno)                                                        = acceptor.New
	_ func(*acceptor.Table, api.Inst, api.Ballot) (api.Accepted, api.Ballot, bool, api.Errno)       = (*acceptor.Table).Prepare
	_ func(t *acceptor.Table, i api.Inst, b api.Ballot, v string) (api.Ballot, bool, api.Errno)     = (*acceptor.Table).Accept
	_ func(t *acceptor.Table, i api.Inst) (promised api.Ballot, accepted api.Accepted, e api.Errno) = (*acceptor.Table).Get
	_ func(*acceptor.Table, api.Inst) api.Errno                                                     = (*acceptor.Table).Forget
	_ func(*acceptor.Table) int                                                                     = (*acceptor.Table).Count
)

// Numbers of the chapter, written a second time.
const mostInsts = 4096

var (
	rooms      = []int{1, 2, 3, 63, 64, 65, 255, 256, 257, 4095, 4096}
	wrongRooms = []int{math.MinInt, math.MinInt + 1, -(1 << 32), -4096, -2, -1, 0, 4097, 4098, 8192, 1 << 16, 1 << 31, 1 << 32, 1<<32 + 1, math.MaxInt - 1, math.MaxInt}
	// Instances that differ from the first one in one field alone, or in the order of what the fields hold, or that could be nobody's.
	insts = []api.Inst{
		{Tx: 1, Bucket: 2, Replica: 3, Index: 4},
		{Tx: 2, Bucket: 2, Replica: 3, Index: 4},
		{Tx: 1, Bucket: 3, Replica: 3, Index: 4},
		{Tx: 1, Bucket: 2, Replica: 2, Index: 4},
		{Tx: 1, Bucket: 2, Replica: 3, Index: 5},
		{Tx: 1, Bucket: 3, Replica: 2, Index: 4},
		{Tx: 4, Bucket: 3, Replica: 2, Index: 1},
		{Tx: 1<<32 + 1, Bucket: 2, Replica: 3, Index: 4},
		{Tx: 1<<63 + 1, Bucket: 2, Replica: 3, Index: 4},
		{Tx: 1, Bucket: 1<<32 + 2, Replica: 3, Index: 4},
		{Tx: 1, Bucket: 2, Replica: 1<<32 + 3, Index: 4},
		{Tx: 1, Bucket: -2, Replica: 3, Index: 4},
		{Tx: 1, Bucket: 2, Replica: -3, Index: 4},
		{Tx: 1, Bucket: 2, Replica: 3, Index: 1<<31 + 4},
		{},
		{Index: 1},
		{Index: math.MaxUint32},
		{Tx: math.MaxUint64, Bucket: 63, Replica: 3},
		{Tx: math.MaxUint64, Bucket: math.MaxInt, Replica: math.MaxInt, Index: math.MaxUint32},
		{Bucket: math.MinInt, Replica: math.MinInt},
		{Bucket: -1, Replica: -1},
	}
	// Ballots, each one greater than the one before.
	ballots = []api.Ballot{
		{Round: 0, Node: 0}, {Round: 0, Node: 1}, {Round: 0, Node: 127}, {Round: 0, Node: 128}, {Round: 0, Node: 255},
		{Round: 1, Node: 0}, {Round: 1, Node: 1}, {Round: 1, Node: 9}, {Round: 1, Node: 255},
		{Round: 2, Node: 0}, {Round: 2, Node: 1}, {Round: 2, Node: 2}, {Round: 3, Node: 0},
		{Round: 255, Node: 255}, {Round: 256, Node: 0}, {Round: 1 << 16, Node: 3}, {Round: 1 << 24, Node: 1},
		{Round: 1<<31 - 1, Node: 255}, {Round: 1 << 31, Node: 0},
		{Round: math.MaxUint32 - 1, Node: 255}, {Round: math.MaxUint32, Node: 0}, {Round: math.MaxUint32, Node: 254}, {Round: math.MaxUint32, Node: 255},
	}
	values = []string{"a", "", "b", "A", " ", "\x00", "\x00\x00", "ab", "\xff\xfe", "0", strings.Repeat("v", 64), strings.Repeat("v", 65), strings.Repeat("w", 65537)}
)

var (
	one     = insts[0]
	nothing = api.Accepted{}
	zero    = api.Ballot{}
	last    = api.Ballot{Round: math.MaxUint32, Node: 255}
)

func TestNumbersOfTheChapter(t *testing.T) {
	if api.ErrArg != 1 || api.ErrAcceptFull != 101 || api.ErrAcceptNone != 102 {
		t.Error("the errors' numbers")
	}
	if api.MaxInsts != mostInsts {
		t.Error("the limits")
	}
}

func TestRowsOfTheChapter(t *testing.T) {
	x := made(t, 1)
	promises(t, x, one, ballot(2, 1), nothing)
	refuses(t, x, one, ballot(1, 9), "a", ballot(2, 1))
	accepts(t, x, one, ballot(2, 1), "b")
	promises(t, x, one, ballot(3, 0), accepted(2, 1, "b"))
	knows(t, x, one, ballot(3, 0), accepted(2, 1, "b"))
}

func TestNew(t *testing.T) {
	for _, room := range rooms {
		x := made(t, room)
		counts(t, x, 0)
		for _, i := range insts {
			isNot(t, x, i, api.ErrAcceptNone)
		}
		// There is room for so many, and for no more.
		for n := range room {
			promises(t, x, nth(n), ballot(1, 1), nothing)
			counts(t, x, n+1)
		}
		takesNot(t, x, nth(room), ballot(1, 1), api.ErrAcceptFull)
		counts(t, x, room)
	}
}

func TestNewOfWhatMayNotBe(t *testing.T) {
	for _, room := range wrongRooms {
		if x, e := acceptor.New(room); x != nil || e != api.ErrArg {
			t.Errorf("New(%d): %v, %d", room, x, e)
		}
	}
	for room := -300; room <= 4400; room++ {
		x, e := acceptor.New(room)
		if may := room >= 1 && room <= 4096; may != (x != nil) || may != (e == api.OK) {
			t.Errorf("New(%d): %v, %d", room, x, e)
		}
	}
}

func TestNilTable(t *testing.T) {
	var x *acceptor.Table
	for range 2 {
		for _, i := range insts {
			for _, b := range ballots {
				takesNot(t, x, i, b, api.ErrArg)
			}
			isNot(t, x, i, api.ErrArg)
		}
		counts(t, x, 0)
	}
}

// A Table that New did not make has no room that is promised, but it does not panic.
func TestZeroTable(t *testing.T) {
	var x acceptor.Table
	for range 2 {
		for _, i := range insts {
			isNot(t, &x, i, api.ErrAcceptNone)
			x.Prepare(i, ballot(1, 1))
			x.Accept(i, ballot(1, 1), "a")
			x.Get(i)
			x.Forget(i)
			x.Count()
		}
	}
}

// Two tables know nothing of each other, though they are asked for the same instances.
func TestTablesAreAlone(t *testing.T) {
	a, b := pairOf(t, 2), pairOf(t, 1)
	both := func() {
		t.Helper()
		a.looks()
		b.looks()
	}
	both()
	a.prepare(one, ballot(3, 1))
	both()
	b.accept(one, ballot(1, 1), "b")
	both()
	b.prepare(insts[1], ballot(9, 9))
	a.accept(insts[1], ballot(2, 2), "a")
	both()
	b.forget(one)
	both()
	b.prepare(insts[1], ballot(1, 0))
	a.accept(one, ballot(3, 1), "c")
	both()
	a.forget(insts[1])
	both()
	a.forget(one)
	both()
}

func made(t *testing.T, room int) *acceptor.Table {
	t.Helper()
	x, e := acceptor.New(room)
	if x == nil || e != api.OK {
		t.Fatalf("New(%d): %v, %d", room, x, e)
	}
	return x
}

func ballot(round uint32, node uint8) api.Ballot { return api.Ballot{Round: round, Node: node} }

func accepted(round uint32, node uint8, v string) api.Accepted {
	return api.Accepted{Is: true, B: ballot(round, node), Value: v}
}

// in is what was accepted, in a ballot.
func in(b api.Ballot, v string) api.Accepted { return accepted(b.Round, b.Node, v) }

// nth is one of many instances.
func nth(n int) api.Inst {
	return api.Inst{Tx: uint64(n / 256), Bucket: n / 4 % 64, Replica: n % 4}
}

// promises prepares a ballot, which must be promised.
func promises(t *testing.T, x *acceptor.Table, i api.Inst, b api.Ballot, want api.Accepted) {
	t.Helper()
	was, top, ok, e := x.Prepare(i, b)
	if was != want || top != b || !ok || e != api.OK {
		t.Errorf("Prepare(%v, %v): %v, %v, %t, %d, want %v, %v, true", i, b, was, top, ok, e, want, b)
	}
}

// accepts has a value accepted.
func accepts(t *testing.T, x *acceptor.Table, i api.Inst, b api.Ballot, v string) {
	t.Helper()
	top, ok, e := x.Accept(i, b, v)
	if top != b || !ok || e != api.OK {
		t.Errorf("Accept(%v, %v, %q): %v, %t, %d, want %v, true", i, b, short(v), top, ok, e, b)
	}
}

// refuses asks both for a promise of a ballot and to accept in it, which a greater one forbids.
func refuses(t *testing.T, x *acceptor.Table, i api.Inst, b api.Ballot, v string, want api.Ballot) {
	t.Helper()
	was, top, ok, e := x.Prepare(i, b)
	if was != nothing || top != want || ok || e != api.OK {
		t.Errorf("Prepare(%v, %v): %v, %v, %t, %d, want nothing, %v, false", i, b, was, top, ok, e, want)
	}
	top, ok, e = x.Accept(i, b, v)
	if top != want || ok || e != api.OK {
		t.Errorf("Accept(%v, %v, %q): %v, %t, %d, want %v, false", i, b, short(v), top, ok, e, want)
	}
}

// takesNot asks both for a promise and to accept, which an error forbids.
func takesNot(t *testing.T, x *acceptor.Table, i api.Inst, b api.Ballot, want api.Errno) {
	t.Helper()
	was, top, ok, e := x.Prepare(i, b)
	if was != nothing || top != zero || ok || e != want {
		t.Errorf("Prepare(%v, %v): %v, %v, %t, %d, want the error %d", i, b, was, top, ok, e, want)
	}
	top, ok, e = x.Accept(i, b, "v")
	if top != zero || ok || e != want {
		t.Errorf("Accept(%v, %v, v): %v, %t, %d, want the error %d", i, b, top, ok, e, want)
	}
}

// knows asks twice, since Get changes nothing.
func knows(t *testing.T, x *acceptor.Table, i api.Inst, promised api.Ballot, want api.Accepted) {
	t.Helper()
	for range 2 {
		top, was, e := x.Get(i)
		if top != promised || was != want || e != api.OK {
			t.Errorf("Get(%v): %v, %v, %d, want %v, %v", i, top, was, e, promised, want)
		}
	}
}

// isNot asks for an instance and forgets it, which an error forbids.
func isNot(t *testing.T, x *acceptor.Table, i api.Inst, want api.Errno) {
	t.Helper()
	top, was, e := x.Get(i)
	if top != zero || was != nothing || e != want {
		t.Errorf("Get(%v): %v, %v, %d, want the error %d", i, top, was, e, want)
	}
	if e := x.Forget(i); e != want {
		t.Errorf("Forget(%v): %d, want %d", i, e, want)
	}
}

func forgets(t *testing.T, x *acceptor.Table, i api.Inst) {
	t.Helper()
	if e := x.Forget(i); e != api.OK {
		t.Errorf("Forget(%v): %d", i, e)
	}
}

func counts(t *testing.T, x *acceptor.Table, want int) {
	t.Helper()
	if got := x.Count(); got != want {
		t.Errorf("Count: %d, want %d", got, want)
	}
}

// short is a value as a test tells it.
func short(v string) string {
	if len(v) > 20 {
		return v[:20] + ".."
	}
	return v
}
