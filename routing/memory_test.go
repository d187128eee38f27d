package routing_test

import (
	"runtime"
	"slices"
	"testing"

	"tontine/api"
	"tontine/routing"
)

// scribble writes over a list, and over the memory behind its length.
func scribble(l []api.Peer) {
	for i := range l[:cap(l)] {
		l[:cap(l)][i] = peer(99, 55)
	}
}

// The list of the fingers is the caller's.
func TestFingersAreTheCallers(t *testing.T) {
	for n := 1; n <= mostFingers; n++ {
		x := knowing(t, n)
		first, second := x.Fingers(), x.Fingers()
		scribble(first)
		if !slices.Equal(second, known[:n]) {
			t.Errorf("two answers share memory: %v", second)
		}
		fingersAre(t, x, known[:n]...)
		steps(t, x, at(100), known[n-1], false)
		// What was told stays as it was, whatever is learned.
		learns(t, x, 1, peer(77, 75))
		if n < 3 {
			learns(t, x, 1, told...)
		}
		if !slices.Equal(second, known[:n]) {
			t.Errorf("what was told is %v now", second)
		}
	}
}

// What is learned grows into no memory that was told.
func TestFingersAreNotGrownInto(t *testing.T) {
	x := knowing(t, mostFingers)
	for i := 3; i >= 1; i-- {
		learns(t, x, i)
		short := x.Fingers()
		longer := append(short, peer(99, 55), peer(99, 56), peer(99, 57))
		learns(t, x, i, told...)
		fingersAre(t, x, append(slices.Clone(known[:i]), told[i-1])...)
		if longer[i] != peer(99, 55) {
			t.Errorf("what was told is %v now", longer)
		}
	}
}

// The list that is learned from is the caller's again; what lies behind its length is not learned.
func TestLearnKeepsNothingOfItsArgument(t *testing.T) {
	for i := 1; i <= 3; i++ {
		for many := range mostFingers + 1 {
			longer := slices.Concat(told, told)
			was := slices.Clone(longer)
			x := knowing(t, mostFingers)
			learns(t, x, i, longer[:many]...)
			if !slices.Equal(longer, was) {
				t.Errorf("the list is %v now", longer)
			}
			scribble(longer)
			want := slices.Clone(known[:i])
			if i <= many {
				want = append(want, told[i-1])
			}
			fingersAre(t, x, want...)
		}
	}
	// Also one that is refused is left as it is.
	longer := slices.Concat(told, told)
	x := knowing(t, mostFingers)
	mayNotLearn(t, x, 1, longer...)
	mayNotLearn(t, x, 4, longer[:2]...)
	if !slices.Equal(longer, slices.Concat(told, told)) {
		t.Errorf("the list is %v now", longer)
	}
	scribble(longer)
	fingersAre(t, x, known...)
}

// Two tables may learn from one list, and from each other, and share nothing.
func TestTablesShareNothing(t *testing.T) {
	x, y := knowing(t, 1), knowing(t, 1)
	of := []api.Peer{peer(6, 70), peer(7, 80)}
	learns(t, x, 1, of...)
	learns(t, y, 1, of...)
	learns(t, x, 2, of...)
	fingersAre(t, x, known[0], of[0], of[1])
	fingersAre(t, y, known[0], of[0])
	learns(t, y, 2, x.Fingers()[1:]...)
	learns(t, x, 1)
	fingersAre(t, x, known[0])
	fingersAre(t, y, known[0], of[0], of[1])
}

// A message that was handled is the caller's again, and is as it was; so is the answer.
func TestHandleKeepsNothing(t *testing.T) {
	x := knowing(t, mostFingers)
	for _, l := range lookups {
		m := full(from(7, l.pos, 258, 3))
		was := full(from(7, l.pos, 258, 3))
		got, e := x.Handle(m)
		if e != api.OK || !sameMsg(m, was) {
			t.Errorf("Handle: %d; the message is %+v now", e, m)
		}
		scribble(m.Peers)
		want := look(1, l.to.Node, l.pos, 258, 4)
		if l.owner {
			want = found(1, 2, l.pos, 258, 3, l.to)
		}
		if !sameMsg(got, want) {
			t.Errorf("the answer is %+v now, want %+v", got, want)
		}
		again, _ := x.Handle(was)
		scribble(got.Peers)
		if !sameMsg(again, want) {
			t.Errorf("two answers share memory: %+v", again)
		}
		answers(t, x, was, want)
	}
	fingersAre(t, x, known...)
}

// heap is how much memory is in use.
func heap() uint64 {
	runtime.GC()
	var m runtime.MemStats
	runtime.ReadMemStats(&m)
	return m.HeapAlloc
}

// What a table keeps does not grow with what it has learned, and has nothing of a long list.
func TestTablesDoNotGrow(t *testing.T) {
	before := heap()
	var all []*routing.Table
	for n := range 100 {
		x := knowing(t, 1)
		for range 50 {
			long := make([]api.Peer, 10000)
			long[0], long[1], long[2] = peer(n, 70), peer(n, 80), peer(n, 90)
			for i := 1; i <= 3; i++ {
				learns(t, x, i, long[:3]...)
				x.Handle(from(7, at(100), 5, i))
			}
		}
		fingersAre(t, x, known[0], peer(n, 70), peer(n, 80), peer(n, 90))
		all = append(all, x)
	}
	if after := heap(); after > before+1<<20 {
		t.Errorf("%d bytes are in use, and before that %d", after, before)
	}
	runtime.KeepAlive(all)
}
