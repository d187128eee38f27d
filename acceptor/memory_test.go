package acceptor_test

import (
	"strings"
	"testing"
	"unsafe"

	"tontine/acceptor"
	"tontine/api"
)

// A value that was accepted is the table's own: it neither keeps the longer text of which it was a piece, nor sees what becomes of that.
func TestValuesShareNoMemory(t *testing.T) {
	long := []byte(strings.Repeat("0123456789", 1000))
	lent := unsafe.String(&long[0], len(long))
	x := made(t, 3)
	accepts(t, x, insts[0], ballot(1, 1), lent[4990:5000])
	accepts(t, x, insts[1], ballot(1, 1), lent)
	accepts(t, x, insts[2], ballot(1, 1), lent[:0])
	for i := range long {
		long[i] = '#'
	}
	knows(t, x, insts[0], ballot(1, 1), accepted(1, 1, "0123456789"))
	knows(t, x, insts[1], ballot(1, 1), accepted(1, 1, strings.Repeat("0123456789", 1000)))
	knows(t, x, insts[2], ballot(1, 1), accepted(1, 1, ""))
}

// What was answered is the caller's: it stays as it is when the table goes on, and the table doesn't see what becomes of it.
func TestAnswersAreTheCallers(t *testing.T) {
	x := made(t, 1)
	accepts(t, x, one, ballot(1, 1), "v")
	was, top, _, _ := x.Prepare(one, ballot(2, 2))
	gotTop, got, _ := x.Get(one)
	accepts(t, x, one, ballot(3, 3), "w")
	forgets(t, x, one)
	accepts(t, x, one, ballot(1, 0), "u")
	if was != accepted(1, 1, "v") || top != ballot(2, 2) || got != was || gotTop != top {
		t.Errorf("what was answered is %v, %v, %v, %v now", was, top, got, gotTop)
	}
	got.Value, got.B.Round, gotTop.Node = "z", 9, 9
	knows(t, x, one, ballot(1, 0), accepted(1, 0, "u"))
}

// The same calls have the same answers, at each table.
func TestAnswersHangOnTheCallsAlone(t *testing.T) {
	var last []api.Accepted
	for range 20 {
		var told []api.Accepted
		x := made(t, 20)
		for round := range uint32(4) {
			for n, i := range insts[:20] {
				was, _, _, e := x.Prepare(i, ballot(round, uint8(n)))
				_, _, e2 := x.Accept(i, ballot(round, uint8(n)), string(rune('a'+n+int(round))))
				if e != api.OK || e2 != api.OK {
					t.Fatalf("%d, %d", e, e2)
				}
				told = append(told, was)
			}
		}
		for n := range told {
			if last != nil && told[n] != last[n] {
				t.Fatalf("%v, and before that %v", told[n], last[n])
			}
		}
		last = told
	}
}

// Less keeps nothing and asks for no table.
func TestLessTwice(t *testing.T) {
	a, b := ballot(1, 2), ballot(2, 1)
	for range 3 {
		if !acceptor.Less(a, b) || acceptor.Less(b, a) {
			t.Error("Less")
		}
	}
	if a != ballot(1, 2) || b != ballot(2, 1) {
		t.Error("Less changes a ballot")
	}
}
