package faildet

import (
	"cmp"

	"tontine/api"
)

const eighths = 8 // of a tick, in which a mean is counted

// node is what is kept of one that is watched.
type node struct {
	last   int64 // when it was heard
	mean   int64 // in eighths
	margin int64
	bad    bool // whether it was suspected when Changes was called last
}

// wait is for how long the node may be silent.
func (n node) wait() int64 {
	return bounded(n.mean/eighths+n.margin, api.MinWait, api.MaxWait)
}

// silence is for how long the node has not been heard; a time that precedes the last one counts as it.
func (n node) silence(now int64) int64 { return max(now, n.last) - n.last }

func (n node) suspected(now int64) bool { return n.silence(now) > n.wait() }

// heard is the node behind one more beat.
func (n node) heard(now int64) node {
	if n.suspected(now) {
		n.margin = min(2*n.margin, api.MaxWait)
	}
	n.mean += min(n.silence(now), api.MaxWait) - n.mean/eighths
	n.last = max(n.last, now)
	return n
}

// judged is the node as Changes leaves it. It is the same node unless one thinks otherwise of it.
func (n node) judged(now int64) node {
	n.bad = n.suspected(now)
	return n
}

// bounded is x, or the bound that it is beyond.
func bounded[T cmp.Ordered](x, least, most T) T { return max(least, min(x, most)) }

func within[T cmp.Ordered](x, least, most T) bool { return bounded(x, least, most) == x }
