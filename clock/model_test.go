package clock_test

import (
	"math/big"
	"slices"
	"testing"

	"tontine/api"
	"tontine/clock"
)

// Numbers of the chapter, written a second time.
const (
	lastTime = 1099511627776 // 2^40
	mostSet  = 256
)

type waiting struct {
	id  uint64
	due int64
}

// model is the chapter's words a second time: thousandths in integers of unlimited size, and timers as they were set, one behind the other.
type model struct {
	rate        int
	thousandths *big.Int
	set         []waiting
}

func modelOf(rate int, at int64) *model {
	return &model{rate: rate, thousandths: times(at, 1000)}
}

func times(n int64, by int) *big.Int { return new(big.Int).Mul(big.NewInt(n), big.NewInt(int64(by))) }

// timeOf is a number of thousandths divided by 1000, rounded down.
func timeOf(thousandths *big.Int) *big.Int {
	return new(big.Int).Div(thousandths, big.NewInt(1000))
}

func (m *model) now() int64 { return timeOf(m.thousandths).Int64() }

func (m *model) pass(n int64) api.Errno {
	if n < 0 {
		return api.ErrArg
	}
	then := new(big.Int).Add(m.thousandths, times(n, m.rate))
	if timeOf(then).Cmp(big.NewInt(lastTime)) > 0 {
		return api.ErrClockEnd
	}
	m.thousandths = then
	return api.OK
}

func (m *model) turn(rate int) api.Errno {
	if rate < 900 || rate > 1100 {
		return api.ErrArg
	}
	m.rate = rate
	return api.OK
}

func (m *model) stop(id uint64) bool {
	for i, w := range m.set {
		if w.id == id {
			m.set = slices.Delete(m.set, i, i+1)
			return true
		}
	}
	return false
}

func (m *model) setTimer(id uint64, due int64) api.Errno {
	if due < 0 || due > lastTime {
		return api.ErrArg
	}
	if !m.stop(id) && len(m.set) == mostSet {
		return api.ErrClockFull
	}
	m.set = append(m.set, waiting{id, due})
	return api.OK
}

func (m *model) due() []uint64 {
	var ids []uint64
	for {
		first := -1
		for i, w := range m.set {
			if w.due <= m.now() && (first < 0 || w.due < m.set[first].due) {
				first = i
			}
		}
		if first < 0 {
			return ids
		}
		ids = append(ids, m.set[first].id)
		m.set = slices.Delete(m.set, first, first+1)
	}
}

func (m *model) next() (int64, bool) {
	if len(m.set) == 0 {
		return 0, false
	}
	least := m.set[0].due
	for _, w := range m.set {
		least = min(least, w.due)
	}
	return least, true
}

// pair is a clock and its model, which get the same calls and must answer the same.
type pair struct {
	t *testing.T
	c *clock.Clock
	m *model
}

func pairOf(t *testing.T, rate int, at int64) *pair {
	t.Helper()
	return &pair{t, made(t, rate, at), modelOf(rate, at)}
}

func (p *pair) same(call string, got, want any) {
	p.t.Helper()
	if got != want {
		p.t.Fatalf("%s: %v, want %v", call, got, want)
	}
}

// looks asks for all that can be asked without a change.
func (p *pair) looks() {
	p.t.Helper()
	p.same("Now", p.c.Now(), p.m.now())
	p.same("Count", p.c.Count(), len(p.m.set))
	at, is := p.c.Next()
	wantAt, wantIs := p.m.next()
	p.same("Next", at, wantAt)
	p.same("whether Next", is, wantIs)
}

func (p *pair) pass(n int64) {
	p.t.Helper()
	p.same("Pass", p.c.Pass(n), p.m.pass(n))
}

func (p *pair) turn(rate int) {
	p.t.Helper()
	p.same("Turn", p.c.Turn(rate), p.m.turn(rate))
}

func (p *pair) set(id uint64, due int64) {
	p.t.Helper()
	p.same("Set", p.c.Set(id, due), p.m.setTimer(id, due))
}

func (p *pair) stop(id uint64) {
	p.t.Helper()
	p.same("Stop", p.c.Stop(id), p.m.stop(id))
}

func (p *pair) due() {
	p.t.Helper()
	got, want := p.c.Due(), p.m.due()
	if !slices.Equal(got, want) {
		p.t.Fatalf("Due: %v, want %v", got, want)
	}
	// What the caller does to an answer is not seen by the clock.
	got = got[:cap(got)]
	for i := range got {
		got[i] = 1 << 60
	}
}

// made is a clock that must be there.
func made(t *testing.T, rate int, at int64) *clock.Clock {
	t.Helper()
	c, e := clock.New(rate, at)
	if c == nil || e != api.OK {
		t.Fatalf("New(%d, %d): %v, %d", rate, at, c, e)
	}
	return c
}

// fails holds the number of an error against the one that is wanted.
func fails(t *testing.T, call string, got, want api.Errno) {
	t.Helper()
	if got != want {
		t.Errorf("%s: %d, want %d", call, got, want)
	}
}

// stands asks a clock for its time.
func stands(t *testing.T, c *clock.Clock, want int64) {
	t.Helper()
	if got := c.Now(); got != want {
		t.Errorf("Now: %d, want %d", got, want)
	}
}

// thousandth asks a clock for its thousandths above its time, and moves it: at the rate 1001, each tick adds one to them beside a whole time.
func thousandth(t *testing.T, c *clock.Clock, want int64) {
	t.Helper()
	now := c.Now()
	fails(t, "Turn(1001)", c.Turn(1001), api.OK)
	for n := int64(1); n <= 1000; n++ {
		fails(t, "Pass(1)", c.Pass(1), api.OK)
		if c.Now() > now+n {
			if got := 1000 - n; got != want {
				t.Errorf("%d thousandths above the time, want %d", got, want)
			}
			return
		}
	}
	t.Errorf("after 1000 ticks at the rate 1001: %d, from %d on", c.Now(), now)
}

// holds asks a clock for its timers, without a change.
func holds(t *testing.T, c *clock.Clock, count int, least int64) {
	t.Helper()
	if got := c.Count(); got != count {
		t.Errorf("Count: %d, want %d", got, count)
	}
	at, is := c.Next()
	if count == 0 {
		least = 0
	}
	if at != least || is != (count > 0) {
		t.Errorf("Next: %d, %t, want %d, %t", at, is, least, count > 0)
	}
}

// tells asks a clock for what is due.
func tells(t *testing.T, c *clock.Clock, want ...uint64) {
	t.Helper()
	if got := c.Due(); !slices.Equal(got, want) {
		t.Errorf("Due: %v, want %v", got, want)
	}
}
