package proposer_test

import (
	"math"
	"strings"
	"testing"

	"tontine/api"
	"tontine/proposer"
)

// The calls, as the chapter lists them.
var (
	_ func(node, acceptors int) (*proposer.Proposer, api.Errno)                       = proposer.New
	_ func(*proposer.Proposer, uint32, string) (api.Ballot, api.Errno)                = (*proposer.Proposer).Begin
	_ func(*proposer.Proposer, int, api.Ballot, api.Accepted) (value string, ok bool) = (*proposer.Proposer).Promise
	_ func(*proposer.Proposer) (api.Ballot, bool)                                     = (*proposer.Proposer).Ballot
	_ func(acceptors int) (*proposer.Learner, api.Errno)                              = proposer.NewLearner
	_ func(*proposer.Learner, int, api.Ballot, string) (value string, ok bool)        = (*proposer.Learner).Accepted
	_ func(*proposer.Learner) (value string, ok bool)                                 = (*proposer.Learner).Chosen
)

// Numbers of the chapter, written a second time.
const (
	lastNode      = 255
	mostAcceptors = 9
)

var (
	// Numbers that are far from those that a chapter names, or that look like them in fewer bits.
	wrongNumbers = []int{math.MinInt, math.MinInt + 1, -(1 << 32), -(1 << 32) + 3, -256, -9, -2, -1, 257, 258, 259, 1 << 16, 1<<16 + 3, 1 << 31, 1 << 32, 1<<32 + 3, math.MaxInt - 1, math.MaxInt}
	// Ballots, each one greater than the one before.
	ballots = []api.Ballot{
		{Round: 0, Node: 0}, {Round: 0, Node: 1}, {Round: 0, Node: 128}, {Round: 0, Node: 255},
		{Round: 1, Node: 0}, {Round: 1, Node: 1}, {Round: 1, Node: 9}, {Round: 1, Node: 255},
		{Round: 2, Node: 0}, {Round: 2, Node: 1}, {Round: 2, Node: 2}, {Round: 3, Node: 0},
		{Round: 255, Node: 255}, {Round: 256, Node: 0}, {Round: 1 << 16, Node: 3}, {Round: 1 << 24, Node: 1},
		{Round: 1<<31 - 1, Node: 255}, {Round: 1 << 31, Node: 0},
		{Round: math.MaxUint32 - 1, Node: 255}, {Round: math.MaxUint32, Node: 0}, {Round: math.MaxUint32, Node: 254}, {Round: math.MaxUint32, Node: 255},
	}
	values = []string{"a", "", "b", "A", " ", "\x00", "\x00\x00", "ab", "\xff\xfe", "0", strings.Repeat("v", 64), strings.Repeat("v", 65), strings.Repeat("w", 65537)}
)

var (
	nothing = api.Accepted{}
	zero    = api.Ballot{}
	last    = api.Ballot{Round: math.MaxUint32, Node: 255}
)

func TestNumbersOfTheChapter(t *testing.T) {
	if api.OK != 0 || api.ErrArg != 1 || api.ErrProposeState != 111 {
		t.Error("the errors' numbers")
	}
}

func TestRowsOfTheChapter(t *testing.T) {
	for _, node := range []int{0, 1, 7, 8, 255} {
		p := made(t, node, 3)
		b := begins(t, p, node, 1, "a")
		counts(t, p, 0, b, nothing)
		counts(t, p, 0, b, nothing)
		decides(t, p, 2, b, accepted(0, 7, "b"), "b")
	}
	l := learner(t, 3)
	hears(t, l, 0, ballot(1, 2), "b")
	chooses(t, l, 1, ballot(1, 2), "b")
}

func TestNew(t *testing.T) {
	for node := -300; node <= 600; node++ {
		for n := -12; n <= 300; n++ {
			mayNew(t, node, n)
		}
	}
	for _, node := range []int{-1, 0, 1, 254, 255, 256} {
		for _, n := range []int{-1, 0, 1, 9, 10} {
			mayNew(t, node, n)
		}
	}
}

func TestNewOfWhatMayNotBe(t *testing.T) {
	for _, wrong := range wrongNumbers {
		for _, right := range []int{0, 1, 3, 9, 255} {
			mayNew(t, wrong, right)
			mayNew(t, right, wrong)
		}
		for _, other := range wrongNumbers {
			mayNew(t, wrong, other)
		}
	}
}

// mayNew makes a proposer, and holds the answer against the bounds of the chapter.
func mayNew(t *testing.T, node, acceptors int) {
	t.Helper()
	p, e := proposer.New(node, acceptors)
	may := node >= 0 && node <= lastNode && acceptors >= 1 && acceptors <= mostAcceptors
	if may && (p == nil || e != api.OK) || !may && (p != nil || e != api.ErrArg) {
		t.Errorf("New(%d, %d): %v, %d", node, acceptors, p, e)
	}
}

func TestNewLearner(t *testing.T) {
	for n := -300; n <= 300; n++ {
		mayLearn(t, n)
	}
	for _, n := range []int{-1, 0, 1, 9, 10, 254, 255, 256} {
		mayLearn(t, n)
	}
	for _, wrong := range wrongNumbers {
		mayLearn(t, wrong)
	}
}

// mayLearn makes a learner, and holds the answer against the bounds of the chapter.
func mayLearn(t *testing.T, acceptors int) {
	t.Helper()
	l, e := proposer.NewLearner(acceptors)
	may := acceptors >= 1 && acceptors <= mostAcceptors
	if may && (l == nil || e != api.OK) || !may && (l != nil || e != api.ErrArg) {
		t.Errorf("NewLearner(%d): %v, %d", acceptors, l, e)
	}
	if may {
		learnt(t, l, "", false)
	}
}

// A proposer has the node that it was made with, whichever it is.
func TestNodes(t *testing.T) {
	for node := range lastNode + 1 {
		p := made(t, node, 1)
		b := begins(t, p, node, 5, "a")
		if b.Node != uint8(node) || b.Round != 5 {
			t.Errorf("node %d begins %v", node, b)
		}
		decides(t, p, 0, b, nothing, "a")
	}
}

func TestNilProposer(t *testing.T) {
	var p *proposer.Proposer
	for range 2 {
		for _, round := range []uint32{0, 1, 2, math.MaxUint32} {
			for _, v := range values {
				refuses(t, p, round, v, api.ErrArg)
			}
		}
		for _, b := range ballots {
			for _, from := range []int{-1, 0, 1, 8, 9, math.MinInt, math.MaxInt} {
				counts(t, p, from, b, nothing)
				counts(t, p, from, b, accepted(1, 1, "v"))
			}
		}
		isAt(t, p, zero, false)
	}
}

func TestNilLearner(t *testing.T) {
	var l *proposer.Learner
	for range 2 {
		for _, b := range ballots {
			for _, from := range []int{-1, 0, 1, 8, 9, math.MinInt, math.MaxInt} {
				hears(t, l, from, b, "v")
				hears(t, l, from, b, "")
			}
		}
		learnt(t, l, "", false)
	}
}

// A Proposer that New did not make, and a Learner that NewLearner did not make, have no acceptors; nothing is promised of them but that they do not panic.
func TestZeroObjects(t *testing.T) {
	var p proposer.Proposer
	var l proposer.Learner
	for range 2 {
		p.Ballot()
		for from := -1; from <= 10; from++ {
			for _, b := range ballots {
				p.Promise(from, b, accepted(1, 1, "v"))
				p.Begin(b.Round, "a")
				p.Promise(from, b, nothing)
				l.Accepted(from, b, "v")
			}
		}
		p.Ballot()
		l.Chosen()
	}
}

// Two proposers know nothing of each other, nor do two learners.
func TestObjectsAreAlone(t *testing.T) {
	p, q := bidderOf(t, 1, 3), bidderOf(t, 1, 1)
	p.begin(4, "p")
	q.looks()
	q.begin(2, "q")
	p.looks()
	p.promise(0, ballot(4, 1), accepted(3, 3, "x"))
	q.promise(0, ballot(4, 1), nothing)
	q.promise(0, ballot(2, 1), nothing)
	p.promise(0, ballot(4, 1), nothing)
	p.promise(1, ballot(2, 1), nothing)
	q.begin(4, "r")
	p.promise(1, ballot(4, 1), nothing)
	q.promise(0, ballot(4, 1), nothing)

	l, m := hearerOf(t, 3), hearerOf(t, 3)
	l.accepted(0, ballot(1, 1), "a")
	m.accepted(1, ballot(1, 1), "a")
	m.accepted(0, ballot(1, 0), "b")
	l.accepted(2, ballot(1, 1), "a")
	m.accepted(2, ballot(1, 0), "b")
	m.accepted(2, ballot(1, 1), "a")
	l.looks()
	m.looks()
}

func made(t *testing.T, node, acceptors int) *proposer.Proposer {
	t.Helper()
	p, e := proposer.New(node, acceptors)
	if p == nil || e != api.OK {
		t.Fatalf("New(%d, %d): %v, %d", node, acceptors, p, e)
	}
	isAt(t, p, zero, false)
	return p
}

func learner(t *testing.T, acceptors int) *proposer.Learner {
	t.Helper()
	l, e := proposer.NewLearner(acceptors)
	if l == nil || e != api.OK {
		t.Fatalf("NewLearner(%d): %v, %d", acceptors, l, e)
	}
	learnt(t, l, "", false)
	return l
}

func ballot(round uint32, node uint8) api.Ballot { return api.Ballot{Round: round, Node: node} }

func accepted(round uint32, node uint8, v string) api.Accepted {
	return api.Accepted{Is: true, B: ballot(round, node), Value: v}
}

// rank is the place of a ballot in the order of all of them.
func rank(b api.Ballot) uint64 { return uint64(b.Round)*256 + uint64(b.Node) }

// half is how many of the acceptors are the fewest that are more than half.
func half(acceptors int) int { return []int{0, 1, 2, 2, 3, 3, 4, 4, 5, 5}[acceptors] }

// begins begins a ballot, which must be taken.
func begins(t *testing.T, p *proposer.Proposer, node int, round uint32, v string) api.Ballot {
	t.Helper()
	want := ballot(round, uint8(node))
	b, e := p.Begin(round, v)
	if b != want || e != api.OK {
		t.Errorf("Begin(%d, %q): %v, %d, want %v", round, short(v), b, e, want)
	}
	isAt(t, p, want, true)
	return want
}

// refuses begins a ballot, which an error forbids.
func refuses(t *testing.T, p *proposer.Proposer, round uint32, v string, want api.Errno) {
	t.Helper()
	b, is := p.Ballot()
	if got, e := p.Begin(round, v); got != zero || e != want {
		t.Errorf("Begin(%d, %q): %v, %d, want the error %d", round, short(v), got, e, want)
	}
	isAt(t, p, b, is)
}

// counts brings a promise that decides nothing, whether it is counted or not.
func counts(t *testing.T, p *proposer.Proposer, from int, b api.Ballot, a api.Accepted) {
	t.Helper()
	if v, ok := p.Promise(from, b, a); v != "" || ok {
		t.Errorf("Promise(%d, %v, %v): %q, %t", from, b, a, short(v), ok)
	}
}

// decides brings the promise that makes more than half.
func decides(t *testing.T, p *proposer.Proposer, from int, b api.Ballot, a api.Accepted, want string) {
	t.Helper()
	if v, ok := p.Promise(from, b, a); v != want || !ok {
		t.Errorf("Promise(%d, %v, %v): %q, %t, want %q, true", from, b, a, short(v), ok, short(want))
	}
}

// isAt asks twice, since Ballot changes nothing.
func isAt(t *testing.T, p *proposer.Proposer, want api.Ballot, is bool) {
	t.Helper()
	for range 2 {
		if b, ok := p.Ballot(); b != want || ok != is {
			t.Errorf("Ballot: %v, %t, want %v, %t", b, ok, want, is)
		}
	}
}

// hears brings a message by which nothing is chosen, whether it is processed or not.
func hears(t *testing.T, l *proposer.Learner, from int, b api.Ballot, v string) {
	t.Helper()
	before, is := l.Chosen()
	if got, ok := l.Accepted(from, b, v); got != "" || ok {
		t.Errorf("Accepted(%d, %v, %q): %q, %t", from, b, short(v), short(got), ok)
	}
	learnt(t, l, before, is)
}

// chooses brings the message by which a value is chosen.
func chooses(t *testing.T, l *proposer.Learner, from int, b api.Ballot, v string) {
	t.Helper()
	learnt(t, l, "", false)
	if got, ok := l.Accepted(from, b, v); got != v || !ok {
		t.Errorf("Accepted(%d, %v, %q): %q, %t, want the value, true", from, b, short(v), short(got), ok)
	}
	learnt(t, l, v, true)
}

// learnt asks twice, since Chosen changes nothing.
func learnt(t *testing.T, l *proposer.Learner, want string, is bool) {
	t.Helper()
	for range 2 {
		if v, ok := l.Chosen(); v != want || ok != is {
			t.Errorf("Chosen: %q, %t, want %q, %t", short(v), ok, short(want), is)
		}
	}
}

// short is a value as a test tells it.
func short(v string) string {
	if len(v) > 20 {
		return v[:20] + ".."
	}
	return v
}
