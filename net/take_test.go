package net_test

import (
	"math"
	"testing"

	"tontine/api"
)

// five is a net with five packets, of which the second was taken and the fourth lost.
func five(t *testing.T) *pair {
	t.Helper()
	p := pairOf(t, 8)
	for i := range 5 {
		p.send(i, 10-i, bytesOf(i, byte(i)))
	}
	p.take(2)
	p.lose(4)
	return p
}

// absent is numbers that no packet of five has.
func absent() []uint64 { return append([]uint64{2, 4, 6, 7}, wrongNumbers...) }

func TestTake(t *testing.T) {
	p := five(t)
	p.looks()
	for i, id := range []uint64{5, 1, 3} {
		p.take(id)
		p.looks()
		// The second time, there is none.
		tells(t, "Take, twice", api.Packet{}, api.ErrNetNone)(p.n.Take(id))
		p.take(id)
		p.looks()
		if got := p.n.Told().Taken; got != i+2 {
			t.Errorf("Taken: %d, want %d", got, i+2)
		}
	}
	lists(t, p.n)
}

func TestTakeOfWhatIsNotThere(t *testing.T) {
	p := five(t)
	for _, id := range absent() {
		tells(t, "Take of none", api.Packet{}, api.ErrNetNone)(p.n.Take(id))
		p.looks()
	}
	p.send(1, 2, nil)
	p.looks()
}

func TestLook(t *testing.T) {
	p := five(t)
	for _, id := range []uint64{5, 1, 3, 3, 5} {
		p.look(id)
		p.look(id)
		p.looks()
	}
	lists(t, p.n, 1, 3, 5)
	counts(t, p.n, api.Traffic{Sent: 5, Taken: 1, Lost: 1})
}

func TestLookOfWhatIsNotThere(t *testing.T) {
	p := five(t)
	for _, id := range absent() {
		for range 2 {
			tells(t, "Look of none", api.Packet{}, api.ErrNetNone)(p.n.Look(id))
			p.looks()
		}
	}
}

func TestLose(t *testing.T) {
	p := five(t)
	for i, id := range []uint64{3, 5, 1} {
		p.lose(id)
		p.looks()
		fails(t, "Lose, twice", p.n.Lose(id), api.ErrNetNone)
		p.lose(id)
		p.looks()
		if got := p.n.Told().Lost; got != i+2 {
			t.Errorf("Lost: %d, want %d", got, i+2)
		}
	}
	lists(t, p.n)
}

func TestLoseOfWhatIsNotThere(t *testing.T) {
	p := five(t)
	for _, id := range absent() {
		fails(t, "Lose of none", p.n.Lose(id), api.ErrNetNone)
		p.looks()
	}
	p.send(1, 2, nil)
	p.looks()
}

// What was taken is not there to be lost, and the other way round.
func TestAnEndIsAnEnd(t *testing.T) {
	ends := []func(p *pair){
		func(p *pair) { p.take(1) },
		func(p *pair) { p.lose(1) },
		func(p *pair) { p.forget(2) },
	}
	for _, end := range ends {
		p := pairOf(t, 4)
		p.send(1, 2, []byte("ab"))
		p.send(1, 3, []byte("cd"))
		end(p)
		p.looks()
		told := p.n.Told()
		for _, again := range ends {
			again(p)
			p.looks()
		}
		p.look(1)
		p.twice(1)
		p.spoil(1, 0, 1)
		p.looks()
		counts(t, p.n, told)
	}
}

func TestForget(t *testing.T) {
	for _, node := range nodes {
		for _, other := range nodes {
			if node == other {
				continue
			}
			p := pairOf(t, 10)
			// None: packets from the node are not packets to it.
			p.forget(node)
			p.send(node, other, []byte("from"))
			p.forget(node)
			p.looks()
			// One.
			p.send(other, node, []byte("to"))
			p.send(node, other, []byte("from"))
			p.looks()
			p.forget(node)
			p.looks()
			lists(t, p.n, 1, 3)
			// Several, one from itself and a double.
			p.send(node, node, []byte("itself"))
			p.twice(4)
			p.send(other, node, nil)
			p.looks()
			if got := p.n.Forget(node); got != 3 {
				t.Errorf("Forget(%d): %d, want 3", node, got)
			}
			p.m.forget(node)
			p.looks()
			// Twice in a row.
			p.forget(node)
			p.looks()
			lists(t, p.n, 1, 3)
			// All.
			p.forget(other)
			p.looks()
			lists(t, p.n)
			counts(t, p.n, api.Traffic{Sent: 5, Twice: 1, Lost: 6})
			p.forget(other)
			p.looks()
		}
	}
}

func TestForgetOfNodesThatLookAlike(t *testing.T) {
	p := pairOf(t, 20)
	alike := []int{1, 1 + 1<<32, 1 + 1<<8, 1 + 1<<16, -1, 1 + 1<<31, math.MinInt + 1, 0, 2}
	for _, to := range alike {
		p.send(1, to, []byte("ab"))
	}
	for _, to := range alike {
		if got := p.n.Forget(to); got != 1 {
			t.Errorf("Forget(%d): %d, want 1", to, got)
		}
		p.m.forget(to)
		p.looks()
	}
}

func TestForgetOfAFullNet(t *testing.T) {
	p := pairOf(t, mostPackets)
	for i := range mostPackets {
		p.send(i, i%3, []byte{byte(i)})
	}
	for _, node := range []int{1, 1, 3, 0} {
		p.forget(node)
		p.looks()
	}
	for i := range mostPackets {
		p.send(i, i%2+1, nil)
	}
	p.forget(2)
	p.looks()
	p.forget(1)
	p.looks()
	lists(t, p.n)
}

// The order is by the numbers, whatever was done.
func TestListIsInOrder(t *testing.T) {
	p := pairOf(t, 9)
	lists(t, p.n)
	for range 6 {
		p.send(2, 1, []byte("ab"))
	}
	lists(t, p.n, 1, 2, 3, 4, 5, 6)
	p.take(3)
	lists(t, p.n, 1, 2, 4, 5, 6)
	p.twice(2)
	lists(t, p.n, 1, 2, 4, 5, 6, 7)
	p.spoil(4, 0, 1)
	lists(t, p.n, 1, 2, 4, 5, 6, 7)
	p.lose(1)
	lists(t, p.n, 2, 4, 5, 6, 7)
	p.send(1, 2, nil)
	lists(t, p.n, 2, 4, 5, 6, 7, 8)
	p.look(6)
	lists(t, p.n, 2, 4, 5, 6, 7, 8)
	p.twice(4)
	p.twice(8)
	lists(t, p.n, 2, 4, 5, 6, 7, 8, 9, 10)
	p.forget(2)
	lists(t, p.n, 2, 4, 5, 6, 7, 9)
	p.forget(1)
	lists(t, p.n)
	p.send(1, 2, nil)
	lists(t, p.n, 11)
}

// A list of many: a map would tell them in any order.
func TestListOfMany(t *testing.T) {
	n := made(t, mostPackets)
	var want []uint64
	for i := range mostPackets {
		if _, e := n.Send(0, i%5, nil); e != api.OK {
			t.Fatal(e)
		}
		if i%5 != 2 {
			want = append(want, uint64(i+1))
		}
	}
	n.Forget(2)
	for range 5 {
		lists(t, n, want...)
	}
}

func TestToldBehindEachCall(t *testing.T) {
	n := made(t, 3)
	counts(t, n, api.Traffic{})
	n.Send(1, 2, []byte("ab"))
	counts(t, n, api.Traffic{Sent: 1})
	n.Twice(1)
	counts(t, n, api.Traffic{Sent: 1, Twice: 1})
	n.Spoil(1, 1, 1)
	counts(t, n, api.Traffic{Sent: 1, Twice: 1, Spoilt: 1})
	n.Spoil(1, 1, 1)
	counts(t, n, api.Traffic{Sent: 1, Twice: 1, Spoilt: 2})
	n.Spoil(1, 0, 0)
	counts(t, n, api.Traffic{Sent: 1, Twice: 1, Spoilt: 3})
	n.Look(1)
	n.List()
	n.Count()
	counts(t, n, api.Traffic{Sent: 1, Twice: 1, Spoilt: 3})
	n.Take(1)
	counts(t, n, api.Traffic{Sent: 1, Twice: 1, Spoilt: 3, Taken: 1})
	n.Lose(2)
	counts(t, n, api.Traffic{Sent: 1, Twice: 1, Spoilt: 3, Taken: 1, Lost: 1})
	n.Send(1, 2, []byte("ab"))
	n.Send(1, 2, []byte("ab"))
	counts(t, n, api.Traffic{Sent: 3, Twice: 1, Spoilt: 3, Taken: 1, Lost: 1})
	n.Forget(1)
	counts(t, n, api.Traffic{Sent: 3, Twice: 1, Spoilt: 3, Taken: 1, Lost: 1})
	n.Forget(2)
	counts(t, n, api.Traffic{Sent: 3, Twice: 1, Spoilt: 3, Taken: 1, Lost: 3})
	// A spoilt packet that is gone stays counted.
	n.Send(1, 2, []byte("ab"))
	n.Spoil(5, 0, 1)
	n.Lose(5)
	counts(t, n, api.Traffic{Sent: 4, Twice: 1, Spoilt: 4, Taken: 1, Lost: 4})
}
