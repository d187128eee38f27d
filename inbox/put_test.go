package inbox_test

import (
	"math"
	"testing"

	"tontine/api"
	"tontine/inbox"
)

func TestNew(t *testing.T) {
	for _, room := range []int{1, 2, 3, 17, 255, 256} {
		b := made(t, room)
		empty(t, b)
		// There is room for so many, and for no more.
		for i := range room {
			puts(t, b, packetOf(uint64(i), 3), api.OK)
			holds(t, b, i+1)
		}
		puts(t, b, packetOf(999, 3), api.ErrInboxFull)
		holds(t, b, room)
	}
}

func TestNewOfWhatMayNotBe(t *testing.T) {
	for _, room := range wrongRooms {
		if b, e := inbox.New(room); b != nil || e != api.ErrArg {
			t.Errorf("New(%d): %v, %d", room, b, e)
		}
	}
	for room := -300; room <= 600; room++ {
		b, e := inbox.New(room)
		if may := room >= 1 && room <= mostRoom; may != (b != nil) || may != (e == api.OK) {
			t.Errorf("New(%d): %v, %d", room, b, e)
		}
	}
}

func TestPutUntilItIsFull(t *testing.T) {
	for _, room := range []int{1, 2, 5, 256} {
		b := made(t, room)
		for i := range room {
			puts(t, b, packetOf(uint64(i), i%7), api.OK)
		}
		// What doesn't find room leaves no trace, however often it comes.
		for range 3 {
			puts(t, b, packetOf(5000, 9), api.ErrInboxFull)
			holds(t, b, room)
		}
		takes(t, b, packetOf(0, 0))
		holds(t, b, room-1)
		puts(t, b, packetOf(6000, 2), api.OK)
		puts(t, b, packetOf(7000, 2), api.ErrInboxFull)
		for i := 1; i < room; i++ {
			takes(t, b, packetOf(uint64(i), i%7))
		}
		takes(t, b, packetOf(6000, 2))
		empty(t, b)
		puts(t, b, packetOf(8000, 1), api.OK)
		takes(t, b, packetOf(8000, 1))
		empty(t, b)
	}
}

func TestTakeOfNothing(t *testing.T) {
	b := made(t, 3)
	for range 3 {
		empty(t, b)
	}
	// Having asked for nothing takes no room and no packet.
	for i := range 3 {
		puts(t, b, packetOf(uint64(i), 1), api.OK)
	}
	puts(t, b, packetOf(9, 1), api.ErrInboxFull)
	for i := range 3 {
		takes(t, b, packetOf(uint64(i), 1))
	}
	empty(t, b)
}

// A packet's fields are of no interest to an inbox: it gives back what it got.
func TestPacketsOfAllKinds(t *testing.T) {
	packets := []api.Packet{
		{},
		{ID: 1},
		{ID: 1}, // the same once more
		{ID: math.MaxUint64, From: math.MinInt, To: math.MaxInt},
		{Data: []byte{}},
		{Data: []byte{0}},
		{Data: bytesOf(api.MaxFrame+10, 1)},
		{Data: bytesOf(api.MaxFrame+11, 2)},
		{Data: bytesOf(1<<20, 3)},
	}
	for _, to := range nodes {
		for _, from := range nodes {
			packets = append(packets, api.Packet{ID: 7, From: from, To: to, Data: []byte("x")})
		}
	}
	b := made(t, mostRoom)
	for _, p := range packets {
		puts(t, b, p, api.OK)
	}
	holds(t, b, len(packets))
	for _, p := range packets {
		takes(t, b, p)
	}
	empty(t, b)
}

// The queue goes round many times, with each number of packets left in it.
func TestLongTurns(t *testing.T) {
	for _, room := range []int{1, 2, 3, 7, 8, 255, 256} {
		for _, step := range []int{1, 2, 3, 5, 64, 256} {
			turns(t, room, min(step, room))
		}
	}
}

// turns puts and takes a step of packets at a time, with nearly all room or nearly none in use.
func turns(t *testing.T, room, step int) {
	t.Helper()
	q := queueOf(t, room)
	for range room - step {
		q.put(packetOf(uint64(len(q.all)), len(q.all)%5))
	}
	for range 40 * room / step {
		for range step {
			q.put(packetOf(uint64(len(q.all)), len(q.all)%5))
		}
		q.put(packetOf(uint64(len(q.all)), 1))
		for range step {
			q.take()
		}
	}
	for range room + 1 {
		q.take()
	}
	for range 40 * room / step {
		for range step {
			q.put(packetOf(uint64(len(q.all)), len(q.all)%5))
		}
		for range step + 1 {
			q.take()
		}
	}
}
