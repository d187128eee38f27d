package wire

import "tontine/api"

// The fields of Msg behind its Kind, in their order there.
const (
	fieldFrom = iota
	fieldTo
	fieldInst
	fieldBallot
	fieldAccepted
	fieldValue
	fieldTx
	fieldID
	fieldIndex
	fieldRound
	fieldBucket
	fieldReplica
	fieldOf
	fieldInc
	fieldVote
	fieldAnswer
	fieldCopy
	fieldArc
	fieldCopies
	fieldPos
	fieldHops
	fieldPeers
	fieldCount
)

// field is one of a message's: its name, and how it is encoded and decoded.
type field struct {
	name string
	code func(*coder, *api.Msg)
}

// fields are all that a message may have.
func fields() [fieldCount]field {
	return [fieldCount]field{
		fieldFrom:     {"from", func(c *coder, m *api.Msg) { octet(c, &m.From) }},
		fieldTo:       {"to", func(c *coder, m *api.Msg) { octet(c, &m.To) }},
		fieldInst:     {"inst", func(c *coder, m *api.Msg) { inst(c, &m.Inst) }},
		fieldBallot:   {"ballot", func(c *coder, m *api.Msg) { ballot(c, &m.Ballot) }},
		fieldAccepted: {"accepted", func(c *coder, m *api.Msg) { accepted(c, &m.Accepted) }},
		fieldValue:    {"value", func(c *coder, m *api.Msg) { text(c, &m.Value, api.MaxText) }},
		fieldTx:       {"tx", func(c *coder, m *api.Msg) { tx(c, &m.Tx) }},
		fieldID:       {"id", func(c *coder, m *api.Msg) { long(c, &m.ID) }},
		fieldIndex:    {"index", func(c *coder, m *api.Msg) { word(c, &m.Index) }},
		fieldRound:    {"round", func(c *coder, m *api.Msg) { word(c, &m.Round) }},
		fieldBucket:   {"bucket", func(c *coder, m *api.Msg) { bucket(c, &m.Bucket) }},
		fieldReplica:  {"replica", func(c *coder, m *api.Msg) { replica(c, &m.Replica) }},
		fieldOf:       {"of", func(c *coder, m *api.Msg) { replica(c, &m.Of) }},
		fieldInc:      {"inc", func(c *coder, m *api.Msg) { word(c, &m.Inc) }},
		fieldVote:     {"vote", func(c *coder, m *api.Msg) { vote(c, &m.Vote) }},
		fieldAnswer:   {"answer", func(c *coder, m *api.Msg) { answer(c, &m.Answer) }},
		fieldCopy:     {"copy", func(c *coder, m *api.Msg) { replicaCopy(c, &m.Copy) }},
		fieldArc:      {"arc", func(c *coder, m *api.Msg) { arc(c, &m.Arc) }},
		fieldCopies:   {"copies", func(c *coder, m *api.Msg) { list(c, &m.Copies, api.MaxCopies, replicaCopy) }},
		fieldPos:      {"pos", func(c *coder, m *api.Msg) { pos(c, &m.Pos) }},
		fieldHops:     {"hops", func(c *coder, m *api.Msg) { octet(c, &m.Hops) }},
		fieldPeers:    {"peers", func(c *coder, m *api.Msg) { list(c, &m.Peers, api.MaxNodes, peer) }},
	}
}

// usedBy are the fields that a kind uses, in the order of its encoding.
func usedBy(k api.MsgKind) []int {
	return append([]int{fieldFrom, fieldTo}, ownFields(k)...)
}

// ownFields are those that not every kind uses.
func ownFields(k api.MsgKind) []int {
	switch k {
	case api.MsgPrepare, api.MsgNack:
		return []int{fieldInst, fieldBallot}
	case api.MsgPromise:
		return []int{fieldInst, fieldBallot, fieldAccepted}
	case api.MsgAccept, api.MsgAccepted:
		return []int{fieldInst, fieldBallot, fieldValue, fieldTx}
	case api.MsgLearn:
		return []int{fieldIndex, fieldValue}
	case api.MsgRead:
		return []int{fieldBucket, fieldReplica, fieldRound}
	case api.MsgAnswer:
		return []int{fieldBucket, fieldReplica, fieldAnswer}
	case api.MsgVote:
		return []int{fieldTx, fieldBucket, fieldReplica}
	case api.MsgDecision:
		return []int{fieldTx, fieldVote}
	case api.MsgAskDecision:
		return []int{fieldID}
	case api.MsgFence:
		return []int{fieldBucket, fieldReplica, fieldOf, fieldInc}
	case api.MsgFenced:
		return []int{fieldBucket, fieldReplica, fieldOf, fieldInc, fieldCopy}
	case api.MsgMove:
		return []int{fieldRound, fieldArc, fieldCopies}
	case api.MsgMoved:
		return []int{fieldRound, fieldArc}
	case api.MsgRingTell, api.MsgRingNotify, api.MsgRingLeave:
		return []int{fieldPeers}
	case api.MsgLook:
		return []int{fieldPos, fieldID, fieldHops}
	case api.MsgFound:
		return []int{fieldPos, fieldID, fieldHops, fieldPeers}
	case api.MsgAskLearn:
		return []int{fieldIndex}
	}
	return nil
}
