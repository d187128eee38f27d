package routing

import (
	"testing"

	"tontine/api"
)

// No row of calls leads to a table that is not alone and has no finger ahead of a position that is neither its own nor its succ's: its succ is one. So that the answer is tried all the same, these tables are made by hand.
func TestStepWithoutAFinger(t *testing.T) {
	pos := func(lo uint64) api.Pos { return api.Pos{Lo: lo} }
	self, pred, succ := api.Peer{Node: 1, Pos: pos(10)}, api.Peer{Node: 4, Pos: pos(40)}, api.Peer{Node: 2, Pos: pos(20)}
	for _, fingers := range [][]api.Peer{
		nil,
		{{Node: 3, Pos: pos(30)}},
		{{Node: 3, Pos: pos(30)}, {Node: 4, Pos: pos(40)}},
		{{Node: 3, Pos: pos(25)}, {Node: 4, Pos: pos(10)}, {Node: 5, Pos: pos(5)}},
	} {
		x := &Table{self: self, pred: pred, succ: succ, fingers: fingers}
		for _, lo := range []uint64{21, 24, 25} {
			if p, owner, e := x.Step(pos(lo)); p != (api.Peer{}) || owner || e != api.ErrRouteNone {
				t.Errorf("%v: Step(%d): %v, %t, %d", fingers, lo, p, owner, e)
			}
			for hops, want := range map[int]api.Errno{-1: api.ErrRouteForm, 0: api.ErrRouteNone, 7: api.ErrRouteNone, 8: api.ErrRouteNone, 255: api.ErrRouteNone, 256: api.ErrRouteForm} {
				m, e := x.Handle(api.Msg{Kind: api.MsgLook, From: 3, To: 1, Pos: pos(lo), ID: 5, Hops: hops})
				if m.Kind != api.MsgNone || m.To != 0 || m.ID != 0 || m.Hops != 0 || len(m.Peers) != 0 || e != want {
					t.Errorf("%v: Handle with the hops %d: %v, %d", fingers, hops, m, e)
				}
			}
		}
		// The two other answers do not ask for a finger.
		if p, owner, e := x.Step(pos(20)); p != succ || !owner || e != api.OK {
			t.Errorf("Step(20): %v, %t, %d", p, owner, e)
		}
		if p, owner, e := x.Step(pos(41)); p != self || !owner || e != api.OK {
			t.Errorf("Step(41): %v, %t, %d", p, owner, e)
		}
	}
}
