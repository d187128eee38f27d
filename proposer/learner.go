package proposer

import (
	"strings"

	"tontine/acceptor"
	"tontine/api"
)

// Learner learns what is chosen.
type Learner struct {
	acceptors int
	// last is the last message of each acceptor, and backed of how many acceptors each of these is the last one.
	last   [mostAcceptors]api.Accepted
	backed map[api.Accepted]int
	chosen api.Accepted
}

// NewLearner is one that has heard nothing.
func NewLearner(acceptors int) (*Learner, api.Errno) {
	if !mayBe(acceptors) {
		return nil, api.ErrArg
	}
	return &Learner{acceptors: acceptors, backed: map[api.Accepted]int{}}, api.OK
}

// Accepted hears what an acceptor has accepted.
func (l *Learner) Accepted(from int, b api.Ballot, v string) (string, bool) {
	if l == nil || l.chosen.Is || from < 0 || from >= l.acceptors {
		return "", false
	}
	old := l.last[from]
	if old.Is && !acceptor.Less(old.B, b) {
		return "", false
	}
	now := api.Accepted{Is: true, B: b, Value: strings.Clone(v)}
	l.replace(from, old, now)
	if !majority(l.backed[now], l.acceptors) {
		return "", false
	}
	l.chosen = now
	// What led to the choice is not asked for any more.
	clear(l.last[:])
	clear(l.backed)
	return now.Value, true
}

// replace makes a message the last one of an acceptor.
func (l *Learner) replace(from int, old, now api.Accepted) {
	if l.backed[old] > 1 {
		l.backed[old]--
	} else {
		delete(l.backed, old)
	}
	l.last[from] = now
	l.backed[now]++
}

// Chosen is what is chosen.
func (l *Learner) Chosen() (string, bool) {
	if l == nil {
		return "", false
	}
	return l.chosen.Value, l.chosen.Is
}
