package net_test

import (
	"math"
	"testing"

	"tontine/api"
)

func TestSpoil(t *testing.T) {
	for _, n := range []int{1, 2, 3, 256, 257, mostBytes} {
		for _, at := range []int{0, 1, n / 2, n - 2, n - 1} {
			if at < 0 || at >= n {
				continue
			}
			for _, by := range []byte{0, 1, 2, 0x80, 254, 255} {
				p := pairOf(t, 2)
				p.send(1, 2, bytesOf(n, by))
				fails(t, "Spoil", p.n.Spoil(1, at, by), api.OK)
				p.m.spoil(1, at, by)
				p.looks()
				// Twice at the same place is as it was, but counted.
				p.spoil(1, at, by)
				p.looks()
				counts(t, p.n, api.Traffic{Sent: 1, Spoilt: 2})
				p.spoil(1, at, 255)
				p.take(1)
				p.looks()
			}
		}
	}
}

func TestSpoilOfEachByteByEachByte(t *testing.T) {
	for old := range 256 {
		p := pairOf(t, 1)
		p.send(1, 2, []byte{byte(old)})
		for by := range 256 {
			p.spoil(1, 0, byte(by))
			p.look(1)
		}
		p.looks()
	}
}

func TestSpoilWhereThereIsNoByte(t *testing.T) {
	for _, n := range []int{0, 1, 2, 100, mostBytes} {
		p := pairOf(t, 3)
		p.send(1, 2, bytesOf(n, 3))
		// A longer one beside it.
		p.send(1, 2, bytesOf(mostBytes, 4))
		for _, at := range []int{math.MinInt, -n - 1, -n, -2, -1, n, n + 1, 2 * n, n + 1<<32, mostBytes, math.MaxInt - 1, math.MaxInt} {
			if at == 0 && n > 0 {
				continue
			}
			for _, by := range []byte{0, 1, 255} {
				fails(t, "Spoil where there is none", p.n.Spoil(1, at, by), api.ErrArg)
			}
			p.looks()
		}
		counts(t, p.n, api.Traffic{Sent: 2})
	}
}

// Which packet it is comes ahead of which byte.
func TestSpoilOfWhatIsNotThere(t *testing.T) {
	p := five(t)
	for _, id := range absent() {
		for _, at := range []int{math.MinInt, -1, 0, 1, 4, 5, math.MaxInt} {
			for _, by := range []byte{0, 1, 255} {
				fails(t, "Spoil of none", p.n.Spoil(id, at, by), api.ErrNetNone)
			}
		}
		p.looks()
	}
	// The first one has no bytes.
	fails(t, "Spoil(1, 0, 1)", p.n.Spoil(1, 0, 1), api.ErrArg)
	p.looks()
}

// Of packets that were made alike, the one is spoilt that is named.
func TestSpoilOfOneOfTwo(t *testing.T) {
	for _, spoilt := range []uint64{1, 2, 3, 4} {
		p := pairOf(t, 4)
		p.send(1, 2, []byte("abcd"))
		p.twice(1)
		p.twice(2)
		p.send(1, 2, []byte("abcd"))
		p.spoil(spoilt, 2, 0x11)
		p.looks()
		for id := range uint64(4) {
			want := []byte("abcd")
			if id+1 == spoilt {
				want[2] ^= 0x11
			}
			tells(t, "Look", api.Packet{ID: id + 1, From: 1, To: 2, Data: want}, api.OK)(p.n.Look(id + 1))
			tells(t, "Take", api.Packet{ID: id + 1, From: 1, To: 2, Data: want}, api.OK)(p.n.Take(id + 1))
		}
	}
}
