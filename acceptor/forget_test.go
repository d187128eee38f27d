package acceptor_test

import (
	"math/rand/v2"
	"testing"

	"tontine/api"
)

func TestGetAndForgetOfWhatIsNotKnown(t *testing.T) {
	x := made(t, 30)
	for _, i := range insts {
		isNot(t, x, i, api.ErrAcceptNone)
		isNot(t, x, i, api.ErrAcceptNone)
	}
	counts(t, x, 0)
	for n, i := range insts {
		accepts(t, x, i, ballot(3, 3), "v")
		for _, other := range insts[n+1:] {
			isNot(t, x, other, api.ErrAcceptNone)
		}
		counts(t, x, n+1)
	}
}

func TestForget(t *testing.T) {
	for _, gone := range insts {
		x := made(t, len(insts))
		for n, i := range insts {
			accepts(t, x, i, ballot(uint32(n), 3), "v")
			promises(t, x, i, ballot(uint32(n), 4), accepted(uint32(n), 3, "v"))
		}
		forgets(t, x, gone)
		for range 2 {
			isNot(t, x, gone, api.ErrAcceptNone)
			counts(t, x, len(insts)-1)
		}
		for n, i := range insts {
			if i != gone {
				knows(t, x, i, ballot(uint32(n), 4), accepted(uint32(n), 3, "v"))
				forgets(t, x, i)
			}
		}
		counts(t, x, 0)
	}
}

// An instance that comes anew knows nothing of before: neither of a promise nor of a value.
func TestForgetAndComeAnew(t *testing.T) {
	for _, i := range insts {
		for _, b := range ballots {
			x := made(t, 1)
			promises(t, x, i, last, nothing)
			accepts(t, x, i, last, "v")
			forgets(t, x, i)
			promises(t, x, i, b, nothing)
			knows(t, x, i, b, nothing)
			forgets(t, x, i)
			counts(t, x, 0)
			accepts(t, x, i, b, "")
			knows(t, x, i, b, in(b, ""))
			forgets(t, x, i)
			isNot(t, x, i, api.ErrAcceptNone)
		}
	}
}

func TestForgetOfAPromiseAlone(t *testing.T) {
	x := made(t, 2)
	promises(t, x, one, ballot(9, 9), nothing)
	forgets(t, x, one)
	isNot(t, x, one, api.ErrAcceptNone)
	accepts(t, x, one, ballot(1, 1), "v")
	promises(t, x, one, ballot(1, 2), accepted(1, 1, "v"))
	counts(t, x, 1)
}

// Each instance stands by itself, also beside such as differ from it in one field alone.
func TestInstancesStandByThemselves(t *testing.T) {
	p := pairOf(t, len(insts))
	for n, i := range insts {
		p.prepare(i, ballot(uint32(len(insts)-n), uint8(n)))
		p.looks()
	}
	for n, i := range insts {
		p.accept(i, ballot(20, uint8(n)), string(rune('a'+n)))
		p.looks()
	}
	for n, i := range insts {
		p.prepare(i, ballot(uint32(15+n), 0))
		p.looks()
	}
	for _, i := range insts {
		p.forget(i)
		p.looks()
	}
}

func TestManyInstances(t *testing.T) {
	r := rand.New(rand.NewPCG(10, 3))
	x := made(t, mostInsts)
	// What each instance must tell, by its number.
	promised := make([]api.Ballot, mostInsts)
	was := make([]api.Accepted, mostInsts)
	for range 100000 {
		n := r.IntN(mostInsts)
		b := ballot(uint32(r.IntN(20)), uint8(r.IntN(3)))
		if rank(b) < rank(promised[n]) {
			refuses(t, x, nth(n), b, "no", promised[n])
			continue
		}
		promises(t, x, nth(n), b, was[n])
		promised[n] = b
		if r.IntN(2) == 0 {
			was[n] = in(b, string(rune(n)))
			accepts(t, x, nth(n), b, was[n].Value)
		}
		knows(t, x, nth(n), b, was[n])
	}
}
