package proposer_test

import (
	"testing"

	"tontine/api"
	"tontine/proposer"
)

// bid is a ballot that was begun, its proposer's own value, and every promise that came since, whether it counts or not.
type bid struct {
	b     api.Ballot
	own   string
	heard []heard
}

type heard struct {
	from int
	b    api.Ballot
	a    api.Accepted
}

// bids is a proposer as the model has it: all that it has begun. Which promises count, and what they come to, is worked out anew each time.
type bids struct {
	node, acceptors int
	begun           []*bid
}

func (m *bids) begin(round uint32, v string) (api.Ballot, api.Errno) {
	if round == 0 {
		return zero, api.ErrArg
	}
	for _, one := range m.begun {
		if round <= one.b.Round {
			return zero, api.ErrProposeState
		}
	}
	m.begun = append(m.begun, &bid{b: ballot(round, uint8(m.node)), own: v})
	return ballot(round, uint8(m.node)), api.OK
}

// counted is the promises that count, in the order in which they came.
func (m *bids) counted(one *bid) []heard {
	var l []heard
	for from := range one.heard {
		h := one.heard[from]
		counts := h.b == one.b && h.from >= 0 && h.from < m.acceptors
		for _, before := range l {
			counts = counts && before.from != h.from
		}
		if counts {
			l = append(l, h)
		}
	}
	return l
}

func (m *bids) promise(from int, b api.Ballot, a api.Accepted) (string, bool) {
	if len(m.begun) == 0 {
		return "", false
	}
	one := m.begun[len(m.begun)-1]
	before := len(m.counted(one))
	one.heard = append(one.heard, heard{from, b, a})
	l := m.counted(one)
	if len(l) == before || len(l) != half(m.acceptors) {
		return "", false
	}
	return chosenOf(l, one.own), true
}

// chosenOf is the first value, of those that were accepted, before which none was accepted in a ballot so great and behind which none in a greater one.
func chosenOf(l []heard, own string) string {
	for i, h := range l {
		first := h.a.Is
		for j, other := range l {
			if other.a.Is && (rank(other.a.B) > rank(h.a.B) || j < i && other.a.B == h.a.B) {
				first = false
			}
		}
		if first {
			return h.a.Value
		}
	}
	return own
}

func (m *bids) ballot() (api.Ballot, bool) {
	if len(m.begun) == 0 {
		return zero, false
	}
	return m.begun[len(m.begun)-1].b, true
}

// said is a message that an acceptor has accepted something.
type said struct {
	from int
	b    api.Ballot
	v    string
}

// hearsay is a learner as the model has it: every message till the choice. Which is the last one of an acceptor is worked out anew each time.
type hearsay struct {
	acceptors int
	messages  []said
	chosen    *string
}

// last is the index of the last message of an acceptor, or -1: the first of those in its greatest ballot, since any other was behind that one or less than it.
func (m *hearsay) last(from int) int {
	at := -1
	for i, s := range m.messages {
		if s.from == from && (at < 0 || rank(s.b) > rank(m.messages[at].b)) {
			at = i
		}
	}
	return at
}

func (m *hearsay) accepted(from int, b api.Ballot, v string) (string, bool) {
	if m.chosen != nil || from < 0 || from >= m.acceptors {
		return "", false
	}
	m.messages = append(m.messages, said{from, b, v})
	if m.last(from) != len(m.messages)-1 {
		return "", false
	}
	same := 0
	for other := range m.acceptors {
		if at := m.last(other); at >= 0 && m.messages[at].b == b && m.messages[at].v == v {
			same++
		}
	}
	if same < half(m.acceptors) {
		return "", false
	}
	m.chosen = &v
	return v, true
}

func (m *hearsay) told() (string, bool) {
	if m.chosen == nil {
		return "", false
	}
	return *m.chosen, true
}

// bidder is a proposer and its model, which get the same calls and must answer the same.
type bidder struct {
	t *testing.T
	p *proposer.Proposer
	m *bids
}

func bidderOf(t *testing.T, node, acceptors int) *bidder {
	t.Helper()
	return &bidder{t, made(t, node, acceptors), &bids{node: node, acceptors: acceptors}}
}

func (x *bidder) begin(round uint32, v string) {
	x.t.Helper()
	b, e := x.p.Begin(round, v)
	if want, wantE := x.m.begin(round, v); b != want || e != wantE {
		x.t.Fatalf("Begin(%d, %q): %v, %d, want %v, %d", round, short(v), b, e, want, wantE)
	}
	x.looks()
}

func (x *bidder) promise(from int, b api.Ballot, a api.Accepted) {
	x.t.Helper()
	v, ok := x.p.Promise(from, b, a)
	if want, wantOK := x.m.promise(from, b, a); v != want || ok != wantOK {
		x.t.Fatalf("Promise(%d, %v, %v): %q, %t, want %q, %t", from, b, a, short(v), ok, short(want), wantOK)
	}
	x.looks()
}

// looks asks for all that can be asked without a change.
func (x *bidder) looks() {
	x.t.Helper()
	b, is := x.p.Ballot()
	if want, wantIs := x.m.ballot(); b != want || is != wantIs {
		x.t.Fatalf("Ballot: %v, %t, want %v, %t", b, is, want, wantIs)
	}
}

// hearer is a learner and its model.
type hearer struct {
	t *testing.T
	l *proposer.Learner
	m *hearsay
}

func hearerOf(t *testing.T, acceptors int) *hearer {
	t.Helper()
	return &hearer{t, learner(t, acceptors), &hearsay{acceptors: acceptors}}
}

func (x *hearer) accepted(from int, b api.Ballot, v string) {
	x.t.Helper()
	got, ok := x.l.Accepted(from, b, v)
	if want, wantOK := x.m.accepted(from, b, v); got != want || ok != wantOK {
		x.t.Fatalf("Accepted(%d, %v, %q): %q, %t, want %q, %t", from, b, short(v), short(got), ok, short(want), wantOK)
	}
	x.looks()
}

func (x *hearer) looks() {
	x.t.Helper()
	v, is := x.l.Chosen()
	if want, wantIs := x.m.told(); v != want || is != wantIs {
		x.t.Fatalf("Chosen: %q, %t, want %q, %t", short(v), is, short(want), wantIs)
	}
}
