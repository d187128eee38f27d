package routing_test

import (
	"math"
	"slices"
	"testing"

	"tontine/api"
	"tontine/routing"
)

var (
	ahead  = peer(9, 40)
	middle = peer(1, 50)
	// The fingers of middle, and peers that another node may tell it.
	known = []api.Peer{peer(2, 60), peer(3, 70), peer(4, 80), peer(5, 90)}
	told  = []api.Peer{peer(6, 91), peer(7, 92), peer(8, 93), peer(10, 94)}
)

// knowing is the table of middle with so many fingers.
func knowing(t *testing.T, n int) *routing.Table {
	t.Helper()
	return withFingers(t, ahead, middle, known[:n]...)
}

func TestLearnInTurn(t *testing.T) {
	x := made(t, middle, ahead, known[0])
	learns(t, x, 1, peer(3, 70))
	fingersAre(t, x, known[:2]...)
	learns(t, x, 2, peer(6, 75), peer(4, 80))
	fingersAre(t, x, known[:3]...)
	learns(t, x, 3, peer(6, 85), peer(7, 86), peer(5, 90))
	fingersAre(t, x, known...)
	// What is told in other places, also behind it, does not count.
	learns(t, x, 3, peer(6, 10), peer(7, 20), peer(8, 95), peer(10, 96))
	fingersAre(t, x, known[0], known[1], known[2], peer(8, 95))
	learns(t, x, 2, peer(7, 20), peer(6, 71), peer(8, 30), peer(10, 96))
	fingersAre(t, x, known[0], known[1], peer(6, 71))
	mayNotLearn(t, x, 4, told...)
	mayNotLearn(t, x, 0, told...)
	fingersAre(t, x, known[0], known[1], peer(6, 71))
}

// Each i, at a table with each number of fingers, and with each number of peers told.
func TestLearnAtEachFinger(t *testing.T) {
	all := append([]int{-(1 << 32) + 1, 1<<32 + 1, math.MinInt, math.MinInt + 1, math.MaxInt}, wrongNumbers...)
	for i := -300; i <= 300; i++ {
		all = append(all, i)
	}
	for n := 1; n <= mostFingers; n++ {
		for _, i := range all {
			for many := range mostFingers + 1 {
				x := knowing(t, n)
				if i < 1 || i > 3 || i > n {
					mayNotLearn(t, x, i, told[:many]...)
					fingersAre(t, x, known[:n]...)
					continue
				}
				learns(t, x, i, told[:many]...)
				want := slices.Clone(known[:i])
				if i <= many {
					want = append(want, told[i-1])
				}
				fingersAre(t, x, want...)
			}
		}
	}
}

// More than four peers are refused, whatever they are.
func TestLearnOfLongLists(t *testing.T) {
	for n := 1; n <= mostFingers; n++ {
		for i := 0; i <= 4; i++ {
			for _, many := range []int{5, 6, 8, 255, 256, 260, 1 << 16, 1<<16 + 2} {
				x := knowing(t, n)
				mayNotLearn(t, x, i, slices.Repeat(told[:1], many)...)
				fingersAre(t, x, known[:n]...)
			}
		}
	}
}

// A number that is no node's is refused at each place, also where the peer would not be taken.
func TestLearnOfWrongNumbers(t *testing.T) {
	for n := 1; n <= mostFingers; n++ {
		for i := 1; i <= 3; i++ {
			for many := 1; many <= mostFingers; many++ {
				for place := range many {
					for _, wrong := range wrongNumbers {
						for _, pos := range []api.Pos{told[place].Pos, at(20), at(50), at(70)} {
							of := slices.Clone(told[:many])
							of[place] = api.Peer{Node: wrong, Pos: pos}
							x := knowing(t, n)
							mayNotLearn(t, x, i, of...)
							fingersAre(t, x, known[:n]...)
						}
					}
				}
			}
		}
	}
}

func TestLearnOfEachNumber(t *testing.T) {
	for node := range lastNode + 1 {
		for place := range mostFingers {
			of := slices.Clone(told)
			of[place].Node = node
			for i := 1; i <= 3; i++ {
				x := knowing(t, i)
				learns(t, x, i, of...)
				fingersAre(t, x, append(slices.Clone(known[:i]), of[i-1])...)
			}
		}
	}
}

// Its own number and those that it knows are numbers as any other: where the peer stands is what counts.
func TestLearnOfKnownNumbers(t *testing.T) {
	for _, node := range []int{middle.Node, ahead.Node, 2, 3, 4} {
		x := knowing(t, 2)
		learns(t, x, 2, peer(6, 10), peer(node, 95))
		fingersAre(t, x, known[0], known[1], peer(node, 95))
		learns(t, x, 2, peer(6, 10), peer(node, 65))
		fingersAre(t, x, known[:2]...)
	}
}

// The peer at the place must stand between the finger ahead of it and the node itself.
func TestLearnAtEachPosition(t *testing.T) {
	for i := 1; i <= 3; i++ {
		for lo := uint64(0); lo <= 120; lo++ {
			for _, pos := range []api.Pos{at(lo), {Hi: 1, Lo: lo}, {Hi: greatest, Lo: lo}} {
				x := knowing(t, mostFingers)
				of := slices.Clone(told)
				of[i-1] = api.Peer{Node: 77, Pos: pos}
				learns(t, x, i, of...)
				last := known[i-1].Pos.Lo
				if pos.Hi == 0 && lo >= 50 && lo <= last {
					fingersAre(t, x, known[:i]...)
				} else {
					fingersAre(t, x, append(slices.Clone(known[:i]), of[i-1])...)
				}
			}
		}
	}
}

// The same where the node stands behind its fingers, with all places in the order of the positions.
func TestLearnOfPositionsInOrder(t *testing.T) {
	for s, self := range positions {
		for f, finger := range positions {
			x := made(t, api.Peer{Node: 7, Pos: self}, peer(9, 40), api.Peer{Node: 8, Pos: finger})
			for p, pos := range positions {
				want := f < p && p < s
				if f > s {
					want = p > f || p < s
				}
				if f == s {
					want = p != f
				}
				one := api.Peer{Node: 3, Pos: pos}
				learns(t, x, 1, one)
				if want {
					fingersAre(t, x, api.Peer{Node: 8, Pos: finger}, one)
				} else {
					fingersAre(t, x, api.Peer{Node: 8, Pos: finger})
				}
			}
		}
	}
}

// The neighbours of the two bounds.
func TestLearnAtTheBounds(t *testing.T) {
	for _, self := range positions {
		for _, finger := range positions {
			if self == finger || next(finger) == self {
				continue
			}
			succ := api.Peer{Node: 8, Pos: finger}
			x := made(t, api.Peer{Node: 7, Pos: self}, peer(9, 40), succ)
			for _, pos := range []api.Pos{next(finger), before(self)} {
				learns(t, x, 1, api.Peer{Node: 3, Pos: pos})
				fingersAre(t, x, succ, api.Peer{Node: 3, Pos: pos})
			}
			for _, pos := range []api.Pos{finger, self} {
				learns(t, x, 1, api.Peer{Node: 3, Pos: pos})
				fingersAre(t, x, succ)
			}
			if before(finger) != self {
				for _, pos := range []api.Pos{before(finger), next(self)} {
					learns(t, x, 1, api.Peer{Node: 3, Pos: pos})
					fingersAre(t, x, succ)
				}
			}
		}
	}
}

// The finger and all later ones are gone, also where there is none to be taken.
func TestLearnForgetsLaterFingers(t *testing.T) {
	for n := 1; n <= mostFingers; n++ {
		for i := 1; i <= min(3, n); i++ {
			for _, of := range [][]api.Peer{nil, {}, told[:i-1], slices.Repeat([]api.Peer{peer(6, 55)}, 4), slices.Repeat([]api.Peer{middle}, 4), slices.Repeat(known[i-1:i], 4)} {
				x := knowing(t, n)
				learns(t, x, i, of...)
				fingersAre(t, x, known[:i]...)
				// What is gone does not come back, and is not asked any more.
				steps(t, x, at(100), known[i-1], false)
				if i < 3 {
					mayNotLearn(t, x, i+1, told...)
				}
				learns(t, x, i, told...)
				fingersAre(t, x, append(slices.Clone(known[:i]), told[i-1])...)
				steps(t, x, at(100), told[i-1], false)
			}
		}
	}
}

// A call that is refused changes nothing of what is asked.
func TestRefusedLearnChangesNothing(t *testing.T) {
	for n := 1; n <= mostFingers; n++ {
		x := knowing(t, n)
		for range 2 {
			mayNotLearn(t, x, 0, told...)
			mayNotLearn(t, x, 4, told...)
			if n < 3 {
				mayNotLearn(t, x, n+1, told...)
			}
			mayNotLearn(t, x, 1, append(slices.Clone(told), told...)...)
			mayNotLearn(t, x, 1, peer(6, 91), peer(256, 92))
			mayNotLearn(t, x, 1, peer(-1, 91))
			fingersAre(t, x, known[:n]...)
			steps(t, x, at(100), known[n-1], false)
			walks(t, x, at(100), known[0], false)
			answers(t, x, look(3, 1, at(100), 7, 0), look(1, known[n-1].Node, at(100), 7, 1))
		}
	}
}
