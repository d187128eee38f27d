package ring

import (
	"slices"

	"tontine/api"
)

// Handle does what a message asks for.
func (r *Ring) Handle(m api.Msg) ([]api.Msg, api.Errno) {
	if r == nil {
		return nil, api.ErrArg
	}
	if !r.takes(m) {
		return nil, api.ErrRingPeer
	}
	switch m.Kind {
	case api.MsgRingAsk:
		return r.answer(m.From), api.OK
	case api.MsgRingTell:
		return r.learn(m.Peers[0], m.Peers[1], m.Peers[2:]), api.OK
	case api.MsgRingNotify:
		r.meet(m.Peers[0])
	case api.MsgRingLeave:
		r.drop(m.From, m.Peers[1], m.Peers[2:])
	}
	return nil, api.OK
}

// takes tells whether a message is one of another node to this one, in the form of its kind.
func (r *Ring) takes(m api.Msg) bool {
	if m.To != r.self.Node || m.From == r.self.Node || !isNode(m.From) || !formed(m) {
		return false
	}
	return !slices.ContainsFunc(m.Peers, func(p api.Peer) bool { return !isNode(p.Node) })
}

// formed tells whether a message has as many peers as its kind wants, and the first one of them is its sender.
func formed(m api.Msg) bool {
	least, most := 0, 0
	switch m.Kind {
	case api.MsgRingTell, api.MsgRingLeave:
		// These know the sender's pred and its succs.
		least, most = 2, 1+api.Succs
		fallthrough
	case api.MsgRingNotify:
		least, most = least+1, most+1
		fallthrough
	case api.MsgRingAsk:
		n := len(m.Peers)
		return n >= least && n <= most && (n == 0 || m.Peers[0].Node == m.From)
	}
	return false
}

// answer tells a node that asks what this one knows.
func (r *Ring) answer(to int) []api.Msg {
	if r.joining {
		return nil
	}
	return []api.Msg{r.known(api.MsgRingTell, to)}
}

// known is a message of all that it knows.
func (r *Ring) known(kind api.MsgKind, to int) api.Msg {
	return api.Msg{Kind: kind, From: r.self.Node, To: to, Peers: append([]api.Peer{r.self, r.pred}, r.Succs()...)}
}

// ask asks a node what it knows.
func (r *Ring) ask(node int) []api.Msg {
	return []api.Msg{{Kind: api.MsgRingAsk, From: r.self.Node, To: node}}
}

// learn takes what a node that was asked has told of itself and of those next to it.
func (r *Ring) learn(teller, pred api.Peer, succs []api.Peer) []api.Msg {
	if r.joining {
		return r.enter(teller, succs)
	}
	if r.alone() || teller.Node != r.succs[0].Node {
		return nil
	}
	list := append([]api.Peer{teller}, succs...)
	if pred.Node != r.self.Node && Between(r.self.Pos, pred.Pos, r.succs[0].Pos) {
		list = append([]api.Peer{pred}, r.succs...)
	}
	r.succs = r.clean(list)
	return r.notify()
}

// enter takes its place behind the node that was asked, or asks one that is nearer to that place.
func (r *Ring) enter(teller api.Peer, succs []api.Peer) []api.Msg {
	if teller.Node != r.asked {
		return nil
	}
	if succs[0].Node == teller.Node || Between(teller.Pos, r.self.Pos, succs[0].Pos) {
		r.joining = false
		r.succs = r.clean(append(slices.Clone(succs), teller))
		return r.notify()
	}
	for _, p := range slices.Backward(succs) {
		if Between(teller.Pos, p.Pos, r.self.Pos) {
			r.asked = p.Node
			return r.ask(p.Node)
		}
	}
	return nil
}

// notify tells its first succ that it is ahead of it.
func (r *Ring) notify() []api.Msg {
	if r.alone() {
		return nil
	}
	return []api.Msg{{Kind: api.MsgRingNotify, From: r.self.Node, To: r.succs[0].Node, Peers: []api.Peer{r.self}}}
}

// meet takes a node that says that it is ahead of it.
func (r *Ring) meet(p api.Peer) {
	if r.joining || r.hasPred() && !Between(r.pred.Pos, p.Pos, r.self.Pos) {
		return
	}
	if r.alone() {
		r.succs = []api.Peer{p}
	}
	r.pred = p
}
