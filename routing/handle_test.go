package routing_test

import (
	"reflect"
	"testing"

	"tontine/api"
	"tontine/wire"
)

// Lookups whose answer is known: of the node's own position, of its succ's, and of one that is handed on.
var lookups = []struct {
	pos   api.Pos
	to    api.Peer
	owner bool
}{{at(45), middle, true}, {at(50), middle, true}, {at(55), known[0], true}, {at(60), known[0], true}, {at(75), known[1], false}, {at(10), known[3], false}}

// from is a lookup that has come to middle.
func from(node int, pos api.Pos, id uint64, hops int) api.Msg {
	return look(node, middle.Node, pos, id, hops)
}

// All numbers of hops: an owner is told at each of them, a lookup is handed on at the first eight alone.
func TestHandleWithEachHops(t *testing.T) {
	x := knowing(t, mostFingers)
	for _, l := range lookups {
		for hops := -300; hops <= 600; hops++ {
			m := from(7, l.pos, 258, hops)
			switch {
			case hops < 0 || hops > lastHops:
				refuses(t, x, m, api.ErrRouteForm)
			case l.owner:
				answers(t, x, m, found(1, 2, l.pos, 258, hops, l.to))
			case hops < mostHops:
				answers(t, x, m, look(1, l.to.Node, l.pos, 258, hops+1))
			default:
				refuses(t, x, m, api.ErrRouteHops)
			}
		}
		for _, hops := range wrongNumbers {
			refuses(t, x, from(7, l.pos, 258, hops), api.ErrRouteForm)
		}
	}
}

// Who has sent it counts as little as where it came from: it may be the node itself.
func TestHandleFromEachNode(t *testing.T) {
	x := knowing(t, mostFingers)
	for _, l := range lookups {
		for node := -300; node <= 600; node++ {
			m := from(node, l.pos, 5, 3)
			switch {
			case node < 0 || node > lastNode:
				refuses(t, x, m, api.ErrRouteForm)
			case l.owner:
				answers(t, x, m, found(1, 5, l.pos, 5, 3, l.to))
			default:
				answers(t, x, m, look(1, l.to.Node, l.pos, 5, 4))
			}
		}
		for _, node := range wrongNumbers {
			refuses(t, x, from(node, l.pos, 5, 3), api.ErrRouteForm)
		}
	}
}

func TestHandleToEachNode(t *testing.T) {
	for _, own := range []int{0, 1, 254, 255} {
		self := api.Peer{Node: own, Pos: at(50)}
		x := made(t, self, ahead, peer(2, 60))
		for node := -300; node <= 600; node++ {
			if node != own {
				refuses(t, x, look(7, node, at(50), 5, 3), api.ErrRouteForm)
			}
		}
		for _, node := range wrongNumbers {
			refuses(t, x, look(7, node, at(50), 5, 3), api.ErrRouteForm)
		}
		answers(t, x, look(7, own, at(50), 5, 3), found(own, 5, at(50), 5, 3, self))
		answers(t, x, look(7, own, at(70), 5, 3), look(own, 2, at(70), 5, 4))
	}
}

func TestHandleOfEachKind(t *testing.T) {
	x := knowing(t, mostFingers)
	for kind := api.MsgKind(-300); kind <= 600; kind++ {
		for _, l := range lookups {
			m := from(7, l.pos, 5, 3)
			m.Kind = kind
			if kind != api.MsgLook {
				refuses(t, x, m, api.ErrRouteForm)
			}
		}
	}
	for _, wrong := range wrongNumbers {
		m := from(7, at(50), 5, 3)
		m.Kind = api.MsgKind(wrong)
		refuses(t, x, m, api.ErrRouteForm)
	}
}

// The form comes ahead of the hops.
func TestOrderOfTheErrorsOfHandle(t *testing.T) {
	x := knowing(t, mostFingers)
	far := at(10)
	refuses(t, x, from(7, far, 5, mostHops), api.ErrRouteHops)
	refuses(t, x, from(-1, far, 5, mostHops), api.ErrRouteForm)
	refuses(t, x, from(256, far, 5, lastHops), api.ErrRouteForm)
	refuses(t, x, look(7, 2, far, 5, mostHops), api.ErrRouteForm)
	refuses(t, x, from(7, far, 5, lastHops+1), api.ErrRouteForm)
	refuses(t, x, from(7, far, 5, -1), api.ErrRouteForm)
	for _, kind := range []api.MsgKind{api.MsgNone, api.MsgFound, api.MsgRingAsk, api.MsgKinds} {
		m := from(7, far, 5, mostHops)
		m.Kind = kind
		refuses(t, x, m, api.ErrRouteForm)
	}
}

// The answer goes to the remainder of the ID by 256, and has the whole ID.
func TestHandleWithEachID(t *testing.T) {
	x := knowing(t, mostFingers)
	ids := []uint64{1<<32 - 1, 1 << 32, 1<<32 + 7, 1<<62 + 255, 1<<63 - 1, 1 << 63, 1<<63 + 1, greatest - 256, greatest - 255, greatest - 1, greatest}
	for id := range uint64(1100) {
		ids = append(ids, id)
	}
	for _, id := range ids {
		for _, l := range lookups {
			m := from(7, l.pos, id, 2)
			if l.owner {
				answers(t, x, m, found(1, int(id&255), l.pos, id, 2, l.to))
			} else {
				answers(t, x, m, look(1, l.to.Node, l.pos, id, 3))
			}
		}
	}
	for _, row := range []struct {
		id uint64
		to int
	}{{0, 0}, {255, 255}, {256, 0}, {257, 1}, {258, 2}, {511, 255}, {512, 0}, {greatest, 255}, {1 << 63, 0}} {
		if m, e := x.Handle(from(7, at(50), row.id, 0)); m.To != row.to || m.ID != row.id || e != api.OK {
			t.Errorf("the ID %d: to %d with the ID %d, %d", row.id, m.To, m.ID, e)
		}
	}
}

func TestHandleAtEachPosition(t *testing.T) {
	self := api.Peer{Node: 7, Pos: positions[9]}
	for s := range positions {
		for p := range positions {
			w := twinsOf(t, self, api.Peer{Node: 4, Pos: positions[p]}, api.Peer{Node: 5, Pos: positions[s]})
			for _, target := range positions {
				for _, hops := range []int{0, 7, 8, 255} {
					w.handle(look(7, 7, target, 300, hops))
				}
			}
		}
	}
}

// full is a message of which no field is zero.
func full(m api.Msg) api.Msg {
	item := api.Item{Bucket: 1, Ver: 2, Write: true, Data: []api.Entry{{Key: "k", Value: "v"}}, Incs: [4]uint32{1, 2, 3, 4}}
	m.Inst = api.Inst{Tx: 1, Bucket: 2, Replica: 3, Index: 4}
	m.Ballot = api.Ballot{Round: 5, Node: 6}
	m.Accepted = api.Accepted{Is: true, B: m.Ballot, Value: "a"}
	m.Value = "b"
	m.Tx = api.Tx{ID: 7, Client: 8, Managers: [3]int{1, 2, 3}, Items: []api.Item{item}}
	m.Index, m.Round = 9, 10
	m.Bucket, m.Replica, m.Of = 11, 2, 3
	m.Inc, m.Vote = 12, api.VotePrepared
	m.Answer = api.Answer{Round: 13, Inc: 14, Ver: 15, Data: item.Data}
	m.Copy = api.Copy{State: api.StateFull, Inc: 16, Data: item.Data}
	m.Arc = api.Arc{From: 17, Size: 18}
	m.Copies = []api.Copy{m.Copy}
	m.Peers = []api.Peer{peer(9, 99), peer(8, 88)}
	return m
}

// Fields that a lookup does not use are not looked at, and are not handed on.
func TestHandleLeavesOtherFields(t *testing.T) {
	x := knowing(t, mostFingers)
	m := full(look(7, 1, at(50), 258, 3))
	for i := range reflect.TypeFor[api.Msg]().NumField() {
		if reflect.ValueOf(m).Field(i).IsZero() {
			t.Errorf("the field %s is zero", reflect.TypeFor[api.Msg]().Field(i).Name)
		}
	}
	for _, l := range lookups {
		if l.owner {
			answers(t, x, full(from(7, l.pos, 258, 3)), found(1, 2, l.pos, 258, 3, l.to))
		} else {
			answers(t, x, full(from(7, l.pos, 258, 3)), look(1, l.to.Node, l.pos, 258, 4))
			refuses(t, x, full(from(7, l.pos, 258, 8)), api.ErrRouteHops)
		}
		refuses(t, x, full(from(7, l.pos, 258, 256)), api.ErrRouteForm)
	}
}

// What a table sends has the form of its kind: it may be encoded.
func TestAnswersMayBeEncoded(t *testing.T) {
	x := knowing(t, mostFingers)
	for _, l := range lookups {
		for _, id := range []uint64{0, 255, 256, greatest} {
			for hops := range mostHops {
				m, e := x.Handle(from(7, l.pos, id, hops))
				if e != api.OK {
					t.Fatalf("Handle: %d", e)
				}
				frame, err := wire.Encode(m)
				if err != nil {
					t.Fatalf("Encode(%+v): %v", m, err)
				}
				if same, err := wire.Decode(frame); err != nil || !sameMsg(same, m) {
					t.Errorf("Decode: %+v, %v, want %+v", same, err, m)
				}
			}
		}
	}
}

// Lookups change nothing, whether they are taken or not.
func TestHandleChangesNothing(t *testing.T) {
	for n := 1; n <= mostFingers; n++ {
		x := knowing(t, n)
		for range 3 {
			for _, l := range lookups {
				x.Handle(from(7, l.pos, 5, 0))
				x.Handle(from(7, l.pos, 5, 8))
				x.Handle(from(7, l.pos, 5, 256))
				x.Handle(full(from(9, l.pos, 5, 1)))
				x.Step(l.pos)
				x.Walk(l.pos)
			}
			fingersAre(t, x, known[:n]...)
			steps(t, x, at(45), middle, true)
			steps(t, x, at(60), known[0], true)
			steps(t, x, at(40), known[n-1], false)
		}
	}
}
