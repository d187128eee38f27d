package acceptor_test

import (
	"slices"
	"testing"

	"tontine/acceptor"
	"tontine/api"
)

// grant is what an instance has granted once: to promise a ballot or, if it has a value, to accept in it.
type grant struct {
	b     api.Ballot
	value *string
}

// instance is one as the model has it: all that it has ever granted. What is promised and accepted is looked up there each time.
type instance struct {
	name   api.Inst
	grants []grant
}

// promised is the greatest ballot that was granted.
func (n *instance) promised() api.Ballot {
	var most uint64
	for _, g := range n.grants {
		most = max(most, rank(g.b))
	}
	return ballot(uint32(most/256), uint8(most%256))
}

// accepted is the last value that was granted.
func (n *instance) accepted() api.Accepted {
	for _, g := range slices.Backward(n.grants) {
		if g.value != nil {
			return in(g.b, *g.value)
		}
	}
	return nothing
}

// model is the instances that are known, in the order in which they came.
type model struct {
	room int
	list []*instance
}

// index is where an instance stands in the list, or -1.
func (m *model) index(i api.Inst) int {
	return slices.IndexFunc(m.list, func(n *instance) bool { return n.name == i })
}

// ask grants or refuses, and tells the instance as it is then and as it was.
func (m *model) ask(i api.Inst, b api.Ballot, value *string) (was api.Accepted, top api.Ballot, ok bool, e api.Errno) {
	at := m.index(i)
	if at < 0 {
		if len(m.list) == m.room {
			return nothing, zero, false, api.ErrAcceptFull
		}
		at = len(m.list)
		m.list = append(m.list, &instance{name: i})
	}
	n := m.list[at]
	for _, g := range n.grants {
		if rank(g.b) > rank(b) {
			return nothing, n.promised(), false, api.OK
		}
	}
	was = n.accepted()
	n.grants = append(n.grants, grant{b, value})
	return was, b, true, api.OK
}

func (m *model) get(i api.Inst) (api.Ballot, api.Accepted, api.Errno) {
	at := m.index(i)
	if at < 0 {
		return zero, nothing, api.ErrAcceptNone
	}
	return m.list[at].promised(), m.list[at].accepted(), api.OK
}

func (m *model) forget(i api.Inst) api.Errno {
	at := m.index(i)
	if at < 0 {
		return api.ErrAcceptNone
	}
	m.list = slices.Delete(m.list, at, at+1)
	return api.OK
}

// pair is a table and its model, which get the same calls and must answer the same.
type pair struct {
	t *testing.T
	x *acceptor.Table
	m *model
}

func pairOf(t *testing.T, room int) *pair {
	t.Helper()
	return &pair{t, made(t, room), &model{room: room}}
}

func (p *pair) prepare(i api.Inst, b api.Ballot) {
	p.t.Helper()
	holds := p.before(i)
	was, top, ok, e := p.x.Prepare(i, b)
	wantWas, wantTop, wantOK, wantE := p.m.ask(i, b, nil)
	if was != wantWas || top != wantTop || ok != wantOK || e != wantE {
		p.t.Fatalf("Prepare(%v, %v): %v, %v, %t, %d, want %v, %v, %t, %d", i, b, was, top, ok, e, wantWas, wantTop, wantOK, wantE)
	}
	holds()
	p.get(i)
}

func (p *pair) accept(i api.Inst, b api.Ballot, v string) {
	p.t.Helper()
	holds := p.before(i)
	top, ok, e := p.x.Accept(i, b, v)
	_, wantTop, wantOK, wantE := p.m.ask(i, b, &v)
	if top != wantTop || ok != wantOK || e != wantE {
		p.t.Fatalf("Accept(%v, %v, %q): %v, %t, %d, want %v, %t, %d", i, b, short(v), top, ok, e, wantTop, wantOK, wantE)
	}
	holds()
	p.get(i)
}

// before looks at an instance before a call, and what it answers holds promise P10.2 against the instance behind the call. It asks the table alone.
func (p *pair) before(i api.Inst) func() {
	top, was, e := p.x.Get(i)
	return func() {
		p.t.Helper()
		now, is, nowE := p.x.Get(i)
		if e == api.OK && nowE != api.OK {
			p.t.Fatalf("%v is known no more", i)
		}
		if rank(now) < rank(top) {
			p.t.Fatalf("%v has promised %v behind %v", i, now, top)
		}
		if is != was && (!is.Is || rank(is.B) < rank(top)) {
			p.t.Fatalf("%v, which had promised %v, has accepted %v behind %v", i, top, is, was)
		}
		if is.Is && rank(is.B) > rank(now) {
			p.t.Fatalf("%v, which has promised %v, has accepted %v", i, now, is)
		}
	}
}

func (p *pair) get(i api.Inst) {
	p.t.Helper()
	top, was, e := p.x.Get(i)
	wantTop, wantWas, wantE := p.m.get(i)
	if top != wantTop || was != wantWas || e != wantE {
		p.t.Fatalf("Get(%v): %v, %v, %d, want %v, %v, %d", i, top, was, e, wantTop, wantWas, wantE)
	}
}

func (p *pair) forget(i api.Inst) {
	p.t.Helper()
	if got, want := p.x.Forget(i), p.m.forget(i); got != want {
		p.t.Fatalf("Forget(%v): %d, want %d", i, got, want)
	}
	p.get(i)
}

// looks asks for all that can be asked without a change.
func (p *pair) looks() {
	p.t.Helper()
	if got, want := p.x.Count(), len(p.m.list); got != want {
		p.t.Fatalf("Count: %d, want %d", got, want)
	}
	for _, i := range insts {
		p.get(i)
	}
	for _, n := range p.m.list {
		p.get(n.name)
	}
}
