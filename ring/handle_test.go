package ring_test

import (
	"math"
	"slices"
	"testing"

	"tontine/api"
	"tontine/ring"
)

// rightOnes is a message of each kind, from node 1 at 60 to node 7, each with as few and with as many peers as may be.
func rightOnes() []api.Msg {
	t, p, s := peer(1, 60), peer(2, 40), []api.Peer{peer(3, 70), peer(4, 80), peer(5, 90), peer(6, 100)}
	fewest, most := []api.Peer{t, p, s[0]}, append([]api.Peer{t, p}, s...)
	return []api.Msg{
		ask(t, 7), notify(t, 7),
		tell(1, 7, fewest...), tell(1, 7, most...),
		leave(1, 7, fewest...), leave(1, 7, most...),
	}
}

// states is a node 7 at 50 in each of its states; its first succ, or the node that it has asked, is most often node 1.
func states(t *testing.T) []*ring.Ring {
	t.Helper()
	self := peer(7, 50)
	return append(notAlone(t, self), made(t, self), between(t, peer(1, 60), self, peer(3, 70), peer(1, 60)))
}

// allOf is all that a node tells.
func allOf(r *ring.Ring) (succs []api.Peer, pred api.Peer, is, joined bool, asks []api.Msg) {
	pred, is = r.Pred()
	return r.Succs(), pred, is, r.Joined(), r.Stabilise()
}

// refusesIn brings a message to a node in each of its states; none of them takes it, or is changed by it.
func refusesIn(t *testing.T, m api.Msg) {
	t.Helper()
	for _, r := range states(t) {
		succs, pred, is, joined, asks := allOf(r)
		refuses(t, r, m, api.ErrRingPeer)
		succsNow, predNow, isNow, joinedNow, asksNow := allOf(r)
		if !slices.Equal(succs, succsNow) || pred != predNow || is != isNow || joined != joinedNow || !sameMsgs(asks, asksNow) {
			t.Errorf("Handle(%s), which is refused, changes the node", short(m))
		}
	}
}

// takesIn brings a message to a node in each of its states; each of them takes it.
func takesIn(t *testing.T, m api.Msg) {
	t.Helper()
	for _, r := range states(t) {
		if _, e := r.Handle(m); e != api.OK {
			t.Errorf("Handle(%s): %d", short(m), e)
		}
	}
}

func TestHandleOfOtherKinds(t *testing.T) {
	for _, m := range rightOnes() {
		takesIn(t, m)
		for kind := api.MsgKind(-3); kind < api.MsgKinds+40; kind++ {
			m.Kind = kind
			if !slices.Contains(ringKinds, kind) {
				refusesIn(t, m)
			}
		}
		for _, wrong := range wrongNumbers {
			m.Kind = api.MsgKind(wrong)
			refusesIn(t, m)
			for _, kind := range ringKinds {
				// One that looks like a kind in fewer bits.
				m.Kind = kind + 256
				refusesIn(t, m)
				m.Kind = kind + 1<<32
				refusesIn(t, m)
			}
		}
	}
}

func TestHandleOfMessagesToOthers(t *testing.T) {
	for _, m := range rightOnes() {
		for _, to := range append([]int{0, 1, 2, 6, 8, 255, 7 + 256, 7 - 256, 7 + 1<<32}, wrongNumbers...) {
			m.To = to
			refusesIn(t, m)
		}
		m.To = 7
		takesIn(t, m)
	}
}

// Who sends is also the first peer, so that just the sender is wrong.
func TestHandleOfMessagesFromNoOther(t *testing.T) {
	for _, m := range rightOnes() {
		from := func(n int) api.Msg {
			one := m
			one.From = n
			if len(m.Peers) > 0 {
				one.Peers = slices.Clone(m.Peers)
				one.Peers[0].Node = n
			}
			return one
		}
		for _, n := range []int{0, 1, 2, 6, 8, 254, 255} {
			takesIn(t, from(n))
		}
		for _, n := range append([]int{7, 7 + 256, 7 - 256}, wrongNumbers...) {
			refusesIn(t, from(n))
		}
	}
}

func TestHandleOfAnotherFirstPeer(t *testing.T) {
	for _, m := range rightOnes() {
		for _, n := range []int{0, 2, 3, 7, 254, 255} {
			if len(m.Peers) == 0 {
				break
			}
			one := m
			one.Peers = slices.Clone(m.Peers)
			one.Peers[0].Node = n
			refusesIn(t, one)
			// The sender's number is of no use at another place.
			if len(one.Peers) > 1 {
				one.Peers[1].Node = m.From
				refusesIn(t, one)
			}
			one = m
			one.From = n
			refusesIn(t, one)
		}
	}
}

func TestHandleOfPeersThatAreNoNodes(t *testing.T) {
	for _, m := range rightOnes() {
		for i := range m.Peers {
			for _, n := range append([]int{0, 1, 7, 254, 255}, wrongNumbers...) {
				one := m
				one.Peers = slices.Clone(m.Peers)
				one.Peers[i].Node = n
				switch {
				case n < 0 || n > lastNode:
					refusesIn(t, one)
				case i > 0:
					// Also the node's own number, and that of another peer, are nodes' numbers.
					takesIn(t, one)
				}
			}
		}
	}
}

func TestHandleOfSoManyPeers(t *testing.T) {
	for _, kind := range ringKinds {
		least, most := leastTold, mostTold
		switch kind {
		case api.MsgRingAsk:
			least, most = 0, 0
		case api.MsgRingNotify:
			least, most = 1, 1
		}
		for n := range 20 {
			m := api.Msg{Kind: kind, From: 1, To: 7}
			for i := range n {
				m.Peers = append(m.Peers, peer(1+i%3, uint64(60+i)))
			}
			if n < least || n > most {
				refusesIn(t, m)
			} else {
				takesIn(t, m)
			}
		}
		for _, n := range []int{255, 256, 257, 259, 512, 1 << 16, 1<<16 + 3} {
			refusesIn(t, api.Msg{Kind: kind, From: 1, To: 7, Peers: slices.Repeat([]api.Peer{peer(1, 60)}, n)})
		}
	}
}

// More than one thing that is wrong is one error.
func TestHandleOfMessagesWithManyFaults(t *testing.T) {
	refusesIn(t, api.Msg{})
	refusesIn(t, api.Msg{Kind: -1, From: -1, To: -1, Peers: []api.Peer{{Node: -1}}})
	refusesIn(t, api.Msg{Kind: math.MaxInt, From: math.MaxInt, To: math.MinInt, Peers: slices.Repeat([]api.Peer{{Node: 256}}, 9)})
	for _, kind := range ringKinds {
		refusesIn(t, api.Msg{Kind: kind, From: 7, To: 7})
		refusesIn(t, api.Msg{Kind: kind, From: 7, To: 7, Peers: slices.Repeat([]api.Peer{peer(7, 50)}, 3)})
		refusesIn(t, api.Msg{Kind: kind, From: 256, To: 7, Peers: slices.Repeat([]api.Peer{{Node: 256}}, 3)})
	}
}

// A message's other fields are not asked for.
func TestHandleOfMessagesWithOtherFields(t *testing.T) {
	full := api.Msg{
		Inst: api.Inst{Tx: 1, Bucket: 2}, Ballot: api.Ballot{Round: 9}, Value: "v", ID: 5, Index: 6, Round: 7, Bucket: 99, Replica: -1, Of: 3, Inc: 4,
		Vote: api.VoteAbort, Arc: api.Arc{From: 1, Size: 2}, Copies: []api.Copy{{}}, Pos: at(4), Hops: 300,
	}
	for i, m := range rightOnes() {
		for j, r := range states(t) {
			full.Kind, full.From, full.To, full.Peers = m.Kind, m.From, m.To, m.Peers
			want, _ := states(t)[j].Handle(m)
			sends(t, r, full, want...)
			if i == 0 && len(want) == 1 && want[0].To != 1 {
				t.Error("an answer to another one")
			}
		}
	}
}

func TestHandleOfAsk(t *testing.T) {
	self := peer(7, 50)
	for _, from := range []int{0, 1, 2, 6, 8, 254, 255} {
		m := ask(peer(from, 0), 7)
		sends(t, made(t, self), m, tell(7, from, self, self, self))
		sends(t, joining(t, self, 1), m)
		sends(t, ringOf(t, self, peer(1, 60)), m, tell(7, from, self, self, peer(1, 60)))
		sends(t, between(t, peer(1, 60), self, peer(1, 60)), m, tell(7, from, self, peer(1, 60), peer(1, 60)))
		all := []api.Peer{peer(1, 60), peer(3, 70), peer(4, 80), peer(2, 40)}
		for n := 1; n <= mostSuccs; n++ {
			sends(t, ringOf(t, self, all[:n]...), m, tell(7, from, append([]api.Peer{self, self}, all[:n]...)...))
			sends(t, between(t, peer(9, 45), self, all[:n]...), m, tell(7, from, append([]api.Peer{self, peer(9, 45)}, all[:n]...)...))
		}
	}
}

// A node that is alone, and has a pred all the same, tells of it.
func TestHandleOfAskWhileAloneWithAPred(t *testing.T) {
	self, pred := peer(7, 50), peer(2, 40)
	r := between(t, pred, self, peer(1, 60))
	r.Suspect(1)
	sends(t, r, ask(peer(3, 0), 7), tell(7, 3, self, pred, self))
	joins(t, r, 1, ask(self, 1))
	sends(t, r, ask(peer(3, 0), 7))
	sends(t, r, ask(peer(1, 0), 7))
}

// Being asked changes nothing.
func TestHandleOfAskChangesNothing(t *testing.T) {
	for i, r := range states(t) {
		succs, pred, is, joined, asks := allOf(r)
		for from := range 7 {
			r.Handle(ask(peer(from, 0), 7))
		}
		succsNow, predNow, isNow, joinedNow, asksNow := allOf(r)
		if !slices.Equal(succs, succsNow) || pred != predNow || is != isNow || joined != joinedNow || !sameMsgs(asks, asksNow) {
			t.Errorf("state %d changes", i)
		}
	}
}
