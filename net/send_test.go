package net_test

import (
	"math"
	"math/rand/v2"
	"testing"

	"tontine/api"
)

func TestSend(t *testing.T) {
	p := pairOf(t, 40)
	for i, n := range []int{0, 1, 2, 3, 100, 1 << 10, 1 << 16, mostBytes - 1, mostBytes} {
		if id := p.send(3, 5, bytesOf(n, byte(i))); id != uint64(i+1) {
			t.Errorf("Send of %d bytes: %d", n, id)
		}
		p.looks()
	}
	p.send(0, 0, nil)
	p.send(0, 0, []byte{})
	p.looks()
}

func TestSendOfTooMuch(t *testing.T) {
	p := pairOf(t, 4)
	p.send(1, 2, []byte("a"))
	for _, n := range []int{mostBytes + 1, mostBytes + 2, 1 << 17, 1 << 20} {
		p.send(1, 2, make([]byte, n))
		p.looks()
	}
	if id, e := p.n.Send(1, 2, make([]byte, mostBytes+1)); id != 0 || e != api.ErrNetLong {
		t.Errorf("Send of 65547 bytes: %d, %d", id, e)
	}
	// What is refused takes no number.
	if id := p.send(1, 2, []byte("b")); id != 2 {
		t.Errorf("Send: %d, want 2", id)
	}
	p.looks()
}

func TestSendBetweenAnyNodes(t *testing.T) {
	p := pairOf(t, len(nodes)*len(nodes))
	for _, from := range nodes {
		for _, to := range nodes {
			p.send(from, to, []byte{byte(from), byte(to)})
		}
	}
	p.looks()
	for _, id := range p.n.List() {
		p.take(id)
	}
	p.looks()
}

func TestSendAtTheRoom(t *testing.T) {
	for _, room := range []int{1, 2, 7, mostPackets} {
		p := pairOf(t, room)
		for i := range room - 1 {
			p.send(i, i+1, []byte{byte(i)})
		}
		// Room for one packet more.
		p.looks()
		if id := p.send(1, 2, []byte("last")); id != uint64(room) {
			t.Errorf("Send: %d, want %d", id, room)
		}
		p.looks()
		// Room for none.
		p.send(1, 2, []byte("more"))
		p.send(1, 2, nil)
		p.send(1, 2, make([]byte, mostBytes))
		p.looks()
		// With both errors at once, the first one is told.
		if id, e := p.n.Send(1, 2, make([]byte, mostBytes+1)); id != 0 || e != api.ErrNetLong {
			t.Errorf("Send of 65547 bytes to a full net: %d, %d", id, e)
		}
		if id, e := p.n.Send(1, 2, make([]byte, mostBytes)); id != 0 || e != api.ErrNetFull {
			t.Errorf("Send of 65546 bytes to a full net: %d, %d", id, e)
		}
		p.looks()
	}
}

// Whatever makes room, there is room again, and the numbers go on.
func TestSendBehindAnEnd(t *testing.T) {
	for _, end := range []func(p *pair){
		func(p *pair) { p.take(2) },
		func(p *pair) { p.lose(1) },
		func(p *pair) { p.forget(2) },
	} {
		p := pairOf(t, 3)
		for range 3 {
			p.send(1, 2, []byte("ab"))
		}
		p.send(1, 2, []byte("ab"))
		end(p)
		p.looks()
		if id := p.send(3, 4, []byte("cd")); id != 4 {
			t.Errorf("Send: %d, want 4", id)
		}
		p.looks()
		if id := p.twice(4); p.n.Count() < 3 && id != 5 {
			t.Errorf("Twice: %d, want 5", id)
		}
		p.looks()
	}
}

func TestTwice(t *testing.T) {
	p := pairOf(t, 20)
	p.send(7, 9, []byte("abc"))
	p.send(math.MinInt, math.MaxInt, nil)
	p.send(-1, 0, bytesOf(mostBytes, 1))
	for i, id := range []uint64{1, 2, 3, 1, 4, 5, 6} {
		if got := p.twice(id); got != uint64(i+4) {
			t.Errorf("Twice(%d): %d, want %d", id, got, i+4)
		}
		p.looks()
	}
	// One that is doubled is as it was, and so is its double when it is gone.
	p.take(1)
	p.looks()
	p.lose(4)
	p.looks()
	p.twice(8)
	p.looks()
}

func TestTwiceOfWhatIsNotThere(t *testing.T) {
	p := pairOf(t, 5)
	for range 4 {
		p.send(1, 2, []byte("ab"))
	}
	p.take(2)
	p.lose(3)
	none := append([]uint64{2, 3, 5, 6}, wrongNumbers...)
	for _, id := range none {
		gets(t, "Twice of none", 0, api.ErrNetNone)(p.n.Twice(id))
		p.twice(id)
		p.looks()
	}
	// Without room too: which number it is comes ahead of the room.
	for range 3 {
		p.send(1, 2, []byte("cd"))
	}
	p.looks()
	none = append([]uint64{2, 3, 8, 9}, wrongNumbers...)
	for _, id := range none {
		gets(t, "Twice of none, full", 0, api.ErrNetNone)(p.n.Twice(id))
		p.looks()
	}
	for _, id := range p.n.List() {
		gets(t, "Twice, full", 0, api.ErrNetFull)(p.n.Twice(id))
		p.twice(id)
		p.looks()
	}
	// What was refused took no numbers.
	p.lose(1)
	if id := p.twice(4); id != 8 {
		t.Errorf("Twice: %d, want 8", id)
	}
	p.looks()
}

func TestTwiceAtTheRoom(t *testing.T) {
	for _, room := range []int{2, 7, mostPackets} {
		p := pairOf(t, room)
		p.send(1, 2, []byte("ab"))
		for i := range room - 1 {
			if id := p.twice(uint64(i + 1)); id != uint64(i+2) {
				t.Fatalf("Twice(%d): %d", i+1, id)
			}
		}
		p.looks()
		p.twice(1)
		p.twice(uint64(room))
		p.looks()
	}
}

// A packet that was spoilt is doubled as it is now.
func TestTwiceOfASpoiltOne(t *testing.T) {
	p := pairOf(t, 5)
	p.send(1, 2, []byte("abc"))
	p.spoil(1, 1, 0x80)
	p.twice(1)
	p.looks()
	p.spoil(2, 1, 0x80)
	p.looks()
	p.take(1)
	p.take(2)
	p.looks()
}

// Numbers are 1, 2, 3, .. in the order in which packets are made, and none comes again.
func TestNumbersRise(t *testing.T) {
	r := rand.New(rand.NewPCG(7, 1))
	p := pairOf(t, 30)
	next := uint64(1)
	for range 5000 {
		var id uint64
		switch r.IntN(4) {
		case 0:
			id = p.send(r.IntN(3), r.IntN(3), bytesOf(r.IntN(4), 0))
		case 1:
			id = p.twice(next - min(next, uint64(r.IntN(20))))
		case 2:
			p.take(next - min(next, uint64(r.IntN(20))))
		default:
			p.lose(next - min(next, uint64(r.IntN(20))))
		}
		if id != 0 && id != next {
			t.Fatalf("the number %d, want %d", id, next)
		}
		if id != 0 {
			next++
		}
		if r.IntN(100) == 0 {
			p.forget(r.IntN(3))
		}
	}
	p.looks()
	if next < 1000 {
		t.Errorf("%d numbers", next-1)
	}
}
