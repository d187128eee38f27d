package ring

import (
	"slices"

	"tontine/api"
)

// Between tells whether a position lies on the arc between two others.
func Between(a, x, b api.Pos) bool {
	if less(a, b) {
		return less(a, x) && less(x, b)
	}
	// The way from a up to b leads over the least position; where the two are one, it is the whole way round.
	return less(a, x) || less(x, b)
}

func less(a, b api.Pos) bool { return a.Hi < b.Hi || a.Hi == b.Hi && a.Lo < b.Lo }

// clean is the first nodes of a list, each of them once, up to the node itself. What lies behind that one is the way round once more.
func (r *Ring) clean(list []api.Peer) []api.Peer {
	var kept []api.Peer
cut:
	for _, p := range list {
		switch {
		case p.Node == r.self.Node || len(kept) == api.Succs:
			break cut
		case !has(kept, p.Node):
			kept = append(kept, p)
		}
	}
	return kept
}

func has(list []api.Peer, node int) bool {
	return slices.ContainsFunc(list, func(p api.Peer) bool { return p.Node == node })
}
