package acceptor_test

import (
	"math/rand/v2"
	"testing"

	"tontine/acceptor"
	"tontine/api"
)

// Promises hold (P10.2): whatever was granted, no lesser ballot is granted behind it, and Get never tells one, nor that a value was accepted in one.
func TestPromisesHold(t *testing.T) {
	r := rand.New(rand.NewPCG(10, 5))
	x := made(t, len(insts))
	// The greatest ballot that each instance has granted since it became known; one that has none is not known.
	granted := map[api.Inst]api.Ballot{}
	for range 200000 {
		i := insts[r.IntN(len(insts))]
		floor, known := granted[i]
		if r.IntN(60) == 0 {
			if e := x.Forget(i); (e == api.OK) != known {
				t.Fatalf("Forget(%v): %d", i, e)
			}
			delete(granted, i)
			continue
		}
		b := ballot(uint32(r.IntN(30)), uint8(r.IntN(3)))
		_, was, _ := x.Get(i)
		top, ok := asked(x, i, b, r.IntN(2) == 0)
		if ok != (!known || rank(b) >= rank(floor)) {
			t.Fatalf("%v, which granted %v, is asked for %v: %t", i, floor, b, ok)
		}
		if ok {
			granted[i] = b
		}
		now, is, e := x.Get(i)
		if e != api.OK || now != granted[i] || top != now {
			t.Fatalf("%v, which granted %v, has promised %v and answers %v, %d", i, granted[i], now, top, e)
		}
		if is != was && (!ok || is.B != b) {
			t.Fatalf("%v, which granted %v, has accepted %v when it was asked for %v", i, floor, is, b)
		}
	}
}

// asked asks for a promise, or to accept.
func asked(x *acceptor.Table, i api.Inst, b api.Ballot, accept bool) (api.Ballot, bool) {
	if accept {
		top, ok, _ := x.Accept(i, b, string(rune(b.Round)))
		return top, ok
	}
	_, top, ok, _ := x.Prepare(i, b)
	return top, ok
}
