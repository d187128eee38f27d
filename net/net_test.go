package net_test

import (
	"bytes"
	"math"
	"slices"
	"testing"

	"tontine/api"
	"tontine/net"
)

// The calls, as the chapter lists them.
var (
	_ func(int) (*net.Net, api.Errno)                      = net.New
	_ func(*net.Net, int, int, []byte) (uint64, api.Errno) = (*net.Net).Send
	_ func(*net.Net, uint64) (api.Packet, api.Errno)       = (*net.Net).Take
	_ func(*net.Net, uint64) (api.Packet, api.Errno)       = (*net.Net).Look
	_ func(*net.Net, uint64) api.Errno                     = (*net.Net).Lose
	_ func(*net.Net, uint64) (uint64, api.Errno)           = (*net.Net).Twice
	_ func(*net.Net, uint64, int, byte) api.Errno          = (*net.Net).Spoil
	_ func(*net.Net, int) int                              = (*net.Net).Forget
	_ func(*net.Net) []uint64                              = (*net.Net).List
	_ func(*net.Net) int                                   = (*net.Net).Count
	_ func(*net.Net) api.Traffic                           = (*net.Net).Told
)

var (
	// Node numbers are arbitrary.
	nodes = []int{0, 1, 2, 11, 12, 1 << 31, math.MaxInt, math.MaxInt - 1, -1, -2, -(1 << 31), math.MinInt}
	// Numbers that no packet has in a net where few were made.
	wrongNumbers = []uint64{0, 1 << 20, 1<<31 - 1, 1 << 32, 1<<63 - 1, 1 << 63, math.MaxUint64 - 1, math.MaxUint64}
)

func TestNumbersOfTheChapter(t *testing.T) {
	if api.ErrArg != 1 || api.ErrNetFull != 71 || api.ErrNetNone != 72 || api.ErrNetLong != 73 {
		t.Error("the errors' numbers")
	}
	if api.MaxNet != mostPackets || api.MaxFrame+10 != mostBytes {
		t.Error("the limits")
	}
}

func TestRowsOfTheChapter(t *testing.T) {
	for _, room := range []int{0, 4097} {
		if n, e := net.New(room); n != nil || e != api.ErrArg {
			t.Errorf("New(%d): %v, %d", room, n, e)
		}
	}

	n := made(t, 2)
	gets(t, "Send(1, 2, ab)", 1, api.OK)(n.Send(1, 2, []byte("ab")))
	gets(t, "Twice(1)", 2, api.OK)(n.Twice(1))
	gets(t, "Send(0, 0, nothing)", 0, api.ErrNetFull)(n.Send(0, 0, nil))
	fails(t, "Spoil(2, 0, 1)", n.Spoil(2, 0, 1), api.OK)
	tells(t, "Take(2)", api.Packet{ID: 2, From: 1, To: 2, Data: []byte{0x60, 0x62}}, api.OK)(n.Take(2))
	tells(t, "Take(2)", api.Packet{}, api.ErrNetNone)(n.Take(2))
	tells(t, "Look(1)", api.Packet{ID: 1, From: 1, To: 2, Data: []byte{0x61, 0x62}}, api.OK)(n.Look(1))

	if got := n.Forget(2); got != 1 {
		t.Errorf("Forget(2): %d", got)
	}
	counts(t, n, api.Traffic{Sent: 1, Twice: 1, Spoilt: 1, Taken: 1, Lost: 1})
	lists(t, n)
}

func TestNew(t *testing.T) {
	for _, room := range []int{1, 2, 3, 255, 256, 257, 4095, 4096} {
		n := made(t, room)
		lists(t, n)
		counts(t, n, api.Traffic{})
		tells(t, "Look(1)", api.Packet{}, api.ErrNetNone)(n.Look(1))
		tells(t, "Take(1)", api.Packet{}, api.ErrNetNone)(n.Take(1))
		gets(t, "Twice(1)", 0, api.ErrNetNone)(n.Twice(1))
		fails(t, "Lose(1)", n.Lose(1), api.ErrNetNone)
		fails(t, "Spoil(1, 0, 0)", n.Spoil(1, 0, 0), api.ErrNetNone)
		for _, node := range nodes {
			if got := n.Forget(node); got != 0 {
				t.Errorf("Forget(%d) of nothing: %d", node, got)
			}
		}
		counts(t, n, api.Traffic{})
		// There is room for so many, and for no more.
		for i := range room {
			gets(t, "Send", uint64(i+1), api.OK)(n.Send(1, 2, []byte{byte(i)}))
		}
		gets(t, "Send", 0, api.ErrNetFull)(n.Send(1, 2, []byte{1}))
		gets(t, "Twice(1)", 0, api.ErrNetFull)(n.Twice(1))
		if got := n.Count(); got != room {
			t.Errorf("Count: %d, want %d", got, room)
		}
		counts(t, n, api.Traffic{Sent: room})
	}
}

func TestNewOfWhatMayNotBe(t *testing.T) {
	for _, room := range []int{math.MinInt, -4096, -2, -1, 0, 4097, 4098, 8192, 65536, 1 << 31, 1<<32 + 1, math.MaxInt} {
		if n, e := net.New(room); n != nil || e != api.ErrArg {
			t.Errorf("New(%d): %v, %d", room, n, e)
		}
	}
	for room := -300; room <= 4400; room++ {
		n, e := net.New(room)
		if may := room >= 1 && room <= 4096; may != (n != nil) || may != (e == api.OK) {
			t.Errorf("New(%d): %v, %d", room, n, e)
		}
	}
}

func TestNetsAreAlone(t *testing.T) {
	a, b := pairOf(t, 3), pairOf(t, 2)
	a.send(1, 2, []byte("a"))
	both := func() {
		t.Helper()
		a.looks()
		b.looks()
	}
	both()
	b.send(3, 2, []byte("b"))
	b.twice(1)
	both()
	b.spoil(1, 0, 255)
	a.spoil(1, 0, 1)
	both()
	a.send(2, 2, []byte("c"))
	b.forget(2)
	both()
	a.take(1)
	b.send(2, 1, []byte("d"))
	b.lose(3)
	both()
	a.forget(2)
	both()
}

func TestNil(t *testing.T) {
	var n *net.Net
	numbers := append([]uint64{1, 2}, wrongNumbers...)
	for i := 0; i < 2; i++ {
		for _, data := range [][]byte{nil, {}, {1}, make([]byte, mostBytes), make([]byte, mostBytes+1)} {
			for _, node := range nodes {
				gets(t, "Send of nil", 0, api.ErrArg)(n.Send(node, -node, data))
			}
		}
		for _, id := range numbers {
			tells(t, "Take of nil", api.Packet{}, api.ErrArg)(n.Take(id))
			tells(t, "Look of nil", api.Packet{}, api.ErrArg)(n.Look(id))
			gets(t, "Twice of nil", 0, api.ErrArg)(n.Twice(id))
			fails(t, "Lose of nil", n.Lose(id), api.ErrArg)
			for _, at := range []int{math.MinInt, -1, 0, 1, math.MaxInt} {
				fails(t, "Spoil of nil", n.Spoil(id, at, 1), api.ErrArg)
			}
		}
		for _, node := range nodes {
			if got := n.Forget(node); got != 0 {
				t.Errorf("Forget(%d) of nil: %d", node, got)
			}
		}
		lists(t, n)
		counts(t, n, api.Traffic{})
	}
}

// gets holds a number and an error against those that are wanted.
func gets(t *testing.T, call string, want uint64, wantE api.Errno) func(uint64, api.Errno) {
	return func(got uint64, e api.Errno) {
		t.Helper()
		if got != want || e != wantE {
			t.Errorf("%s: %d, %d, want %d, %d", call, got, e, want, wantE)
		}
	}
}

// tells holds a packet and an error against those that are wanted.
func tells(t *testing.T, call string, want api.Packet, wantE api.Errno) func(api.Packet, api.Errno) {
	return func(got api.Packet, e api.Errno) {
		t.Helper()
		if e != wantE {
			t.Errorf("%s: %d, want %d", call, e, wantE)
		}
		if got.ID != want.ID || got.From != want.From || got.To != want.To || !bytes.Equal(got.Data, want.Data) {
			t.Errorf("%s: %d from %d to %d with %s, want %d from %d to %d with %s", call, got.ID, got.From, got.To, short(got.Data), want.ID, want.From, want.To, short(want.Data))
		}
	}
}

// fails holds the number of an error against the one that is wanted.
func fails(t *testing.T, call string, got, want api.Errno) {
	t.Helper()
	if got != want {
		t.Errorf("%s: %d, want %d", call, got, want)
	}
}

// lists asks a net for its packets.
func lists(t *testing.T, n *net.Net, want ...uint64) {
	t.Helper()
	if got := n.List(); !slices.Equal(got, want) {
		t.Errorf("List: %v, want %v", got, want)
	}
	if got := n.Count(); got != len(want) {
		t.Errorf("Count: %d, want %d", got, len(want))
	}
}

// counts asks a net for its counters, of which the packets that are there follow.
func counts(t *testing.T, n *net.Net, want api.Traffic) {
	t.Helper()
	got := n.Told()
	if got != want {
		t.Errorf("Told: %v, want %v", got, want)
	}
	if got.Sent+got.Twice != got.Taken+got.Lost+n.Count() {
		t.Errorf("Told: %v, Count: %d", got, n.Count())
	}
}
