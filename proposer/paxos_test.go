package proposer_test

import (
	"math/rand/v2"
	"slices"
	"testing"

	"tontine/acceptor"
	"tontine/api"
	"tontine/proposer"
)

type letterKind int

const (
	prepare letterKind = iota
	promised
	accept
	hasAccepted
)

// letter is a message between an acceptor and a proposer or a learner, each of which is named by its index.
type letter struct {
	kind     letterKind
	from, to int
	b        api.Ballot
	was      api.Accepted
	v        string
}

// world is an instance of Paxos: who takes part in it, and what is under way.
type world struct {
	t         *testing.T
	r         *rand.Rand
	inst      api.Inst
	acceptors []*acceptor.Table
	nodes     []int
	proposers []*proposer.Proposer
	own       []string
	learners  []*proposer.Learner
	underWay  []letter
	// Of 100 steps, how many begin a ballot, lose a message, or bring one that stays under way.
	begins, loses, doubles int
	// stubborn proposers ask for the acceptance of their own values, which P11.2 forbids.
	stubborn bool
	voted    bool
	voter    int
	// backed is which acceptors have ever accepted what; chosen is what more than half of them have.
	backed map[api.Accepted][]int
	chosen []api.Accepted
	seen   sights
}

// sights is what a history has come to, by which a test sees that histories are worth their while.
type sights struct {
	apart, agreed, bound, behind, vote, noVote, refused int
}

func worldOf(t *testing.T, r *rand.Rand, acceptors int) *world {
	w := &world{t: t, r: r, inst: api.Inst{Tx: r.Uint64(), Bucket: r.IntN(64), Replica: r.IntN(4)}, backed: map[api.Accepted][]int{}}
	for range acceptors {
		x, e := acceptor.New(1)
		if e != api.OK {
			t.Fatal(e)
		}
		w.acceptors = append(w.acceptors, x)
	}
	for range 1 + r.IntN(4) {
		node := r.IntN(256)
		for slices.Contains(w.nodes, node) {
			node = r.IntN(256)
		}
		w.nodes = append(w.nodes, node)
		w.proposers = append(w.proposers, made(t, node, acceptors))
		w.own = append(w.own, "")
	}
	for range 1 + r.IntN(4) {
		w.learners = append(w.learners, learner(t, acceptors))
	}
	w.voter = r.IntN(256)
	w.begins, w.loses, w.doubles = 1+r.IntN(5), r.IntN(30), r.IntN(30)
	return w
}

// toAll sends a message to all acceptors.
func (w *world) toAll(l letter) {
	for l.to = range w.acceptors {
		w.underWay = append(w.underWay, l)
	}
}

// begin has a proposer begin a ballot; of the same value as before or of another one.
func (w *world) begin(at int, round uint32) {
	v := []string{"a", "b", "c", "d", ""}[w.r.IntN(5)]
	b, e := w.proposers[at].Begin(round, v)
	if e != api.OK {
		w.t.Fatalf("Begin(%d): %d", round, e)
	}
	w.own[at] = v
	w.toAll(letter{kind: prepare, from: at, b: b})
}

// vote has the single voter send its single value in its ballot of round 0; it may do that again.
func (w *world) vote() {
	w.voted = true
	w.toAll(letter{kind: accept, b: ballot(0, uint8(w.voter)), v: "vote"})
}

// next is a round that is greater than the last one of a proposer, often by little.
func (w *world) next(at int) uint32 {
	b, _ := w.proposers[at].Ballot()
	return b.Round + 1 + uint32(w.r.IntN(1+w.r.IntN(5)))
}

// deliver brings a message to whom it is for.
func (w *world) deliver(l letter) {
	switch l.kind {
	case prepare:
		was, _, ok, e := w.acceptors[l.to].Prepare(w.inst, l.b)
		w.refuse(ok, e)
		if ok {
			w.underWay = append(w.underWay, letter{kind: promised, from: l.to, to: l.from, b: l.b, was: was})
		}
	case promised:
		w.promise(l)
	case accept:
		_, ok, e := w.acceptors[l.to].Accept(w.inst, l.b, l.v)
		w.refuse(ok, e)
		if ok {
			w.back(l)
			for to := range w.learners {
				w.underWay = append(w.underWay, letter{kind: hasAccepted, from: l.to, to: to, b: l.b, v: l.v})
			}
		}
	case hasAccepted:
		v, ok := w.learners[l.to].Accepted(l.from, l.b, l.v)
		if ok && v != l.v {
			w.t.Fatalf("a learner hears %q and chooses %q", l.v, v)
		}
	}
}

func (w *world) refuse(ok bool, e api.Errno) {
	if e != api.OK {
		w.t.Fatal(e)
	}
	if !ok {
		w.seen.refused++
	}
}

// promise has a proposer that has enough promises ask for the acceptance of the value that Promise returned.
func (w *world) promise(l letter) {
	v, ok := w.proposers[l.to].Promise(l.from, l.b, l.was)
	if !ok {
		return
	}
	if v != w.own[l.to] {
		w.seen.bound++
	}
	if len(w.chosen) > 0 {
		w.seen.behind++
	}
	if w.stubborn {
		v = w.own[l.to]
	}
	w.toAll(letter{kind: accept, from: l.to, b: l.b, v: v})
}

// back records what an acceptor has accepted.
func (w *world) back(l letter) {
	what := api.Accepted{Is: true, B: l.b, Value: l.v}
	if slices.Contains(w.backed[what], l.to) {
		return
	}
	w.backed[what] = append(w.backed[what], l.to)
	if len(w.backed[what]) == half(len(w.acceptors)) {
		w.chosen = append(w.chosen, what)
	}
}

// step is one thing that happens.
func (w *world) step() {
	dice := w.r.IntN(100)
	switch {
	case len(w.underWay) == 0 || dice < w.begins:
		at := w.r.IntN(len(w.proposers))
		w.begin(at, w.next(at))
	case dice == 99:
		w.vote()
	default:
		at := w.r.IntN(len(w.underWay))
		l := w.underWay[at]
		fate := w.r.IntN(100)
		if fate >= w.doubles {
			w.underWay = slices.Delete(w.underWay, at, at+1)
		}
		if fate < 100-w.loses {
			w.deliver(l)
		}
	}
	for len(w.underWay) > 200 {
		at := w.r.IntN(len(w.underWay))
		w.underWay = slices.Delete(w.underWay, at, at+1)
	}
}

// agree tells whether all learners that hold a value hold the same, and it is one that a majority of the acceptors has accepted in a ballot.
func (w *world) agree() bool {
	var held []string
	for _, l := range w.learners {
		if v, ok := l.Chosen(); ok {
			held = append(held, v)
			if !slices.ContainsFunc(w.chosen, func(a api.Accepted) bool { return a.Value == v }) {
				w.t.Fatalf("a learner holds %q; chosen are %v", v, w.chosen)
			}
		}
	}
	for _, v := range held {
		if v != held[0] {
			return false
		}
	}
	for _, a := range w.chosen {
		if a.Value != w.chosen[0].Value {
			return false
		}
	}
	return true
}

// calm lets a proposer begin a ballot above all others, and all messages arrive: then all learners hold a value.
func (w *world) calm() {
	w.underWay = nil
	var round uint32
	for at := range w.proposers {
		b, _ := w.proposers[at].Ballot()
		round = max(round, b.Round+1)
	}
	w.begin(w.r.IntN(len(w.proposers)), round)
	for len(w.underWay) > 0 {
		l := w.underWay[0]
		w.underWay = w.underWay[1:]
		w.deliver(l)
	}
	for _, l := range w.learners {
		if _, ok := l.Chosen(); !ok {
			w.t.Fatal("a learner holds nothing behind a calm ballot")
		}
	}
}

// history plays a world, and tells whether all learners agreed at each step.
func (w *world) history(steps int) bool {
	if w.r.IntN(2) == 0 {
		w.vote()
	}
	for range steps {
		w.step()
		if !w.agree() {
			w.seen.apart++
			return false
		}
	}
	if len(w.chosen) > 1 {
		w.seen.agreed++
	}
	w.calm()
	switch v, _ := w.learners[0].Chosen(); {
	case v == "vote":
		w.seen.vote++
	case w.voted:
		w.seen.noVote++
	}
	return w.agree()
}

// One value (P11.2): whatever is lost, doubled and delayed, no two learners hold different values, at each step of long histories.
func TestOneValue(t *testing.T) {
	r := rand.New(rand.NewPCG(11, 3))
	for n := 1; n <= mostAcceptors; n++ {
		var all sights
		for range 400 {
			w := worldOf(t, r, n)
			if !w.history(100 + r.IntN(1000)) {
				t.Fatalf("%d acceptors: chosen are %v", n, w.chosen)
			}
			all = all.with(w.seen)
		}
		if all.agreed < 20 || all.bound < 50 || all.behind < 50 || all.vote < 5 || all.noVote < 5 || all.refused < 50 {
			t.Errorf("%d acceptors: the histories are too poor: %+v", n, all)
		}
	}
}

func (s sights) with(o sights) sights {
	return sights{s.apart + o.apart, s.agreed + o.agreed, s.bound + o.bound, s.behind + o.behind, s.vote + o.vote, s.noVote + o.noVote, s.refused + o.refused}
}

// The same histories tell two values of one where proposers ask for what Promise did not return: they would see a fault.
func TestHistoriesTellTwoValues(t *testing.T) {
	r := rand.New(rand.NewPCG(11, 4))
	for n := 1; n <= mostAcceptors; n++ {
		apart := 0
		for range 100 {
			w := worldOf(t, r, n)
			w.stubborn = true
			if !w.history(100 + r.IntN(600)) {
				apart++
			}
		}
		if apart < 5 {
			t.Errorf("%d acceptors: stubborn proposers differ %d times", n, apart)
		}
	}
}

// table is an acceptor of a story that is told step by step.
type table struct {
	t *testing.T
	x *acceptor.Table
}

func tables(t *testing.T, n int) []table {
	var l []table
	for range n {
		x, _ := acceptor.New(1)
		l = append(l, table{t, x})
	}
	return l
}

// promise is what it answers to a proposer that asks for a promise.
func (a table) promise(b api.Ballot, want bool) api.Accepted {
	a.t.Helper()
	was, _, ok, e := a.x.Prepare(api.Inst{}, b)
	if ok != want || e != api.OK {
		a.t.Fatalf("Prepare(%v): %t, %d", b, ok, e)
	}
	return was
}

func (a table) accept(b api.Ballot, v string, want bool) {
	a.t.Helper()
	if _, ok, e := a.x.Accept(api.Inst{}, b, v); ok != want || e != api.OK {
		a.t.Fatalf("Accept(%v, %q): %t, %d", b, v, ok, e)
	}
}

// What is chosen binds the proposer of every greater ballot, whichever majority it asks; what one acceptor alone has accepted binds just those that ask it.
func TestLaterProposersAreBound(t *testing.T) {
	as := tables(t, 3)
	p, q := made(t, 1, 3), made(t, 2, 3)
	b := begins(t, p, 1, 1, "a")
	counts(t, p, 0, b, as[0].promise(b, true))
	decides(t, p, 1, b, as[1].promise(b, true), "a")
	as[0].accept(b, "a", true)

	// The second proposer does not ask the first acceptor.
	c := begins(t, q, 2, 1, "b")
	counts(t, q, 2, c, as[2].promise(c, true))
	decides(t, q, 1, c, as[1].promise(c, true), "b")
	as[1].accept(b, "a", false)
	as[1].accept(c, "b", true)
	as[2].accept(c, "b", true)

	l := learner(t, 3)
	hears(t, l, 0, b, "a")
	hears(t, l, 1, c, "b")

	// The first one tries again, with the acceptor that has a.
	d := begins(t, p, 1, 2, "a")
	counts(t, p, 0, d, as[0].promise(d, true))
	decides(t, p, 2, d, as[2].promise(d, true), "b")
	as[0].accept(d, "b", true)
	hears(t, l, 0, d, "b")
	chooses(t, l, 2, c, "b")
}

// A voter's value in round 0 binds where a promise tells of it, and is chosen where most accept it before any promise.
func TestVotersRound(t *testing.T) {
	vote := ballot(0, 9)
	as := tables(t, 3)
	as[0].accept(vote, "prepared", true)
	p := made(t, 1, 3)
	b := begins(t, p, 1, 1, "abort")
	counts(t, p, 1, b, as[1].promise(b, true))
	decides(t, p, 0, b, as[0].promise(b, true), "prepared")
	as[1].accept(vote, "prepared", false)

	as = tables(t, 3)
	as[0].accept(vote, "prepared", true)
	p = made(t, 1, 3)
	b = begins(t, p, 1, 1, "abort")
	counts(t, p, 1, b, as[1].promise(b, true))
	decides(t, p, 2, b, as[2].promise(b, true), "abort")
	as[1].accept(vote, "prepared", false)
	as[2].accept(vote, "prepared", false)
	l := learner(t, 3)
	hears(t, l, 0, vote, "prepared")
	hears(t, l, 1, b, "abort")
	chooses(t, l, 2, b, "abort")

	l = learner(t, 3)
	hears(t, l, 2, vote, "prepared")
	chooses(t, l, 0, vote, "prepared")
}
