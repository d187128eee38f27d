package proposer_test

import (
	"runtime"
	"strings"
	"testing"
	"unsafe"

	"tontine/api"
)

// lend is a text whose bytes the caller may change.
func lend(s string) (string, []byte) {
	b := []byte(s)
	return unsafe.String(&b[0], len(b)), b
}

// The proposer's own value, and what was accepted, are the proposer's from the call on.
func TestProposersValuesShareNoMemory(t *testing.T) {
	p := made(t, 6, 3)
	own, bytes := lend("0123456789")
	b := begins(t, p, 6, 1, own[2:5])
	clear(bytes)
	counts(t, p, 0, b, nothing)
	decides(t, p, 1, b, nothing, "234")

	b = begins(t, p, 6, 2, "own")
	was, bytes := lend("0123456789")
	counts(t, p, 0, b, accepted(1, 1, was[2:5]))
	clear(bytes)
	decides(t, p, 2, b, nothing, "234")

	b = begins(t, p, 6, 3, "own")
	was, bytes = lend("0123456789")
	counts(t, p, 0, b, nothing)
	v, ok := p.Promise(1, b, accepted(1, 1, was))
	clear(bytes)
	if v != "0123456789" || !ok {
		t.Errorf("the answer changes with the argument: %q, %t", v, ok)
	}
}

// A message is the learner's from the call on, and so is what it tells.
func TestLearnersValuesShareNoMemory(t *testing.T) {
	l := learner(t, 3)
	v, bytes := lend("0123456789")
	hears(t, l, 0, ballot(1, 1), v[2:5])
	clear(bytes)
	hears(t, l, 1, ballot(1, 1), "\x00\x00\x00")
	learnt(t, l, "", false)
	chooses(t, l, 2, ballot(1, 1), "234")

	l = learner(t, 3)
	hears(t, l, 0, ballot(1, 1), "0123456789")
	v, bytes = lend("0123456789")
	got, ok := l.Accepted(1, ballot(1, 1), v)
	clear(bytes)
	if got != "0123456789" || !ok {
		t.Errorf("the answer changes with the argument: %q, %t", got, ok)
	}
	learnt(t, l, "0123456789", true)
}

// What was answered stays as it is when the proposer goes on.
func TestAnswersAreTheCallers(t *testing.T) {
	p := made(t, 6, 1)
	b := begins(t, p, 6, 1, "a")
	v, _ := p.Promise(0, b, accepted(1, 1, "x"))
	now, _ := p.Ballot()
	now.Round, now.Node = 9, 9
	isAt(t, p, ballot(1, 6), true)
	begins(t, p, 6, 2, "b")
	if b != ballot(1, 6) || v != "x" {
		t.Errorf("what was answered is %v, %q now", b, v)
	}
}

// heap is how much memory is in use.
func heap() uint64 {
	runtime.GC()
	var m runtime.MemStats
	runtime.ReadMemStats(&m)
	return m.HeapAlloc
}

// What an object keeps does not grow with what it has seen, nor with texts of which it was given pieces.
func TestObjectsDoNotGrow(t *testing.T) {
	before := heap()
	p, l := made(t, 6, 9), learner(t, 9)
	for round := uint32(1); round <= 20000; round++ {
		long := strings.Repeat(string(rune('a'+round%26)), 2000)
		b, _ := p.Begin(round, long[:3])
		for from := range 9 {
			p.Promise(from, b, api.Accepted{Is: true, B: ballot(round, uint8(from)), Value: long})
		}
		for from := range 4 {
			l.Accepted(from, b, long)
		}
	}
	var learners []any
	for range 1000 {
		l := learner(t, 1)
		l.Accepted(0, zero, strings.Repeat("v", 100000)[:9])
		p := made(t, 1, 9)
		p.Begin(1, strings.Repeat("v", 100000)[:9])
		p.Promise(0, ballot(1, 1), accepted(1, 1, strings.Repeat("v", 100000)[:9]))
		learners = append(learners, l, p)
	}
	if after := heap(); after > before+10<<20 {
		t.Errorf("%d bytes are in use, and before that %d", after, before)
	}
	runtime.KeepAlive(p)
	runtime.KeepAlive(l)
	runtime.KeepAlive(learners)
}

// A learner that holds a value keeps nothing of what it heard before that.
func TestLearnersKeepWhatIsChosen(t *testing.T) {
	before := heap()
	var learners []any
	for range 200 {
		l := learner(t, 9)
		for from := range 4 {
			hears(t, l, from, ballot(1, 1), strings.Repeat(string(rune('a'+from)), 50000))
		}
		for from := 4; from < 8; from++ {
			hears(t, l, from, ballot(1, 1), "v")
		}
		chooses(t, l, 8, ballot(1, 1), "v")
		learners = append(learners, l)
	}
	if after := heap(); after > before+10<<20 {
		t.Errorf("%d bytes are in use, and before that %d", after, before)
	}
	runtime.KeepAlive(learners)
}

// The same calls have the same answers, at each proposer and each learner (P2).
func TestAnswersHangOnTheCallsAlone(t *testing.T) {
	type answer struct {
		v  string
		ok bool
	}
	var before []answer
	for range 30 {
		var told []answer
		p, l := made(t, 3, 5), learner(t, 5)
		for round := uint32(1); round < 30; round++ {
			b, _ := p.Begin(round, "own")
			for k := range uint32(7) {
				from := int(k*round) % 6
				v, ok := p.Promise(from, b, accepted(k*round%3, uint8(k%2), string(rune('a'+k))))
				told = append(told, answer{v, ok})
				v, ok = l.Accepted(from, ballot(k/2, uint8(round/7)), string(rune('a'+round%4)))
				told = append(told, answer{v, ok})
			}
		}
		for i := range before {
			if before[i] != told[i] {
				t.Fatalf("answer %d: %v, and before that %v", i, told[i], before[i])
			}
		}
		before = told
	}
}
