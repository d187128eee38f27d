package acceptor_test

import (
	"testing"

	"tontine/api"
)

// The last place may be taken by Prepare or by Accept; then one that is not known has none, whatever its ballot.
func TestRoom(t *testing.T) {
	for _, room := range []int{1, 2, 3, 20} {
		for _, way := range []func(*testing.T, *pair, api.Inst){
			func(_ *testing.T, p *pair, i api.Inst) { p.prepare(i, ballot(2, 2)) },
			func(_ *testing.T, p *pair, i api.Inst) { p.accept(i, ballot(2, 2), "v") },
		} {
			p := pairOf(t, room)
			for n := range room {
				way(t, p, insts[n])
				p.looks()
			}
			counts(t, p.x, room)
			for _, b := range ballots {
				takesNot(t, p.x, insts[room], b, api.ErrAcceptFull)
				p.looks()
			}
			isNot(t, p.x, insts[room], api.ErrAcceptNone)
		}
	}
}

// At a full table, those that are known are promised and accepted as before.
func TestFullTable(t *testing.T) {
	x := made(t, 3)
	promises(t, x, insts[0], ballot(2, 2), nothing)
	accepts(t, x, insts[1], ballot(2, 2), "v")
	promises(t, x, insts[2], zero, nothing)
	full := func() {
		t.Helper()
		takesNot(t, x, insts[3], last, api.ErrAcceptFull)
		takesNot(t, x, insts[3], zero, api.ErrAcceptFull)
		isNot(t, x, insts[3], api.ErrAcceptNone)
		counts(t, x, 3)
	}
	full()
	refuses(t, x, insts[0], ballot(1, 9), "w", ballot(2, 2))
	refuses(t, x, insts[1], ballot(2, 1), "w", ballot(2, 2))
	promises(t, x, insts[0], ballot(3, 0), nothing)
	accepts(t, x, insts[0], ballot(3, 0), "w")
	promises(t, x, insts[1], ballot(2, 2), accepted(2, 2, "v"))
	accepts(t, x, insts[1], ballot(2, 3), "")
	accepts(t, x, insts[2], zero, "u")
	full()
	knows(t, x, insts[0], ballot(3, 0), accepted(3, 0, "w"))
	knows(t, x, insts[1], ballot(2, 3), accepted(2, 3, ""))
	knows(t, x, insts[2], zero, accepted(0, 0, "u"))
}

// An instance that was forgotten makes room, for another one or for itself.
func TestForgetMakesRoom(t *testing.T) {
	x := made(t, 2)
	promises(t, x, insts[0], ballot(5, 1), nothing)
	accepts(t, x, insts[1], ballot(5, 1), "v")
	takesNot(t, x, insts[2], ballot(5, 1), api.ErrAcceptFull)
	forgets(t, x, insts[0])
	counts(t, x, 1)
	accepts(t, x, insts[2], ballot(1, 1), "u")
	counts(t, x, 2)
	takesNot(t, x, insts[0], ballot(9, 9), api.ErrAcceptFull)
	forgets(t, x, insts[1])
	promises(t, x, insts[1], ballot(1, 0), nothing)
	takesNot(t, x, insts[0], ballot(9, 9), api.ErrAcceptFull)
	knows(t, x, insts[1], ballot(1, 0), nothing)
	knows(t, x, insts[2], ballot(1, 1), accepted(1, 1, "u"))
}

// One place may be taken by far more instances than there is room for, one behind the other.
func TestRoomIsForWhatIsKnown(t *testing.T) {
	x := made(t, 1)
	for n := range 3 * mostInsts {
		accepts(t, x, nth(n), ballot(uint32(n%7), 1), "v")
		takesNot(t, x, nth(n+1), last, api.ErrAcceptFull)
		forgets(t, x, nth(n))
		counts(t, x, 0)
	}
}

func TestRoomForTheMost(t *testing.T) {
	x := made(t, mostInsts)
	for n := range mostInsts {
		b := ballot(uint32(n), uint8(n))
		if n%2 == 0 {
			promises(t, x, nth(n), b, nothing)
		} else {
			accepts(t, x, nth(n), b, string(rune(n)))
		}
	}
	for _, n := range []int{mostInsts, mostInsts + 1, 2 * mostInsts} {
		takesNot(t, x, nth(n), last, api.ErrAcceptFull)
	}
	counts(t, x, mostInsts)
	for n := range mostInsts {
		b := ballot(uint32(n), uint8(n))
		if n%2 == 0 {
			knows(t, x, nth(n), b, nothing)
		} else {
			knows(t, x, nth(n), b, in(b, string(rune(n))))
		}
	}
	forgets(t, x, nth(4000))
	promises(t, x, nth(mostInsts), zero, nothing)
	takesNot(t, x, nth(4000), zero, api.ErrAcceptFull)
	counts(t, x, mostInsts)
}
