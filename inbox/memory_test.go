package inbox_test

import (
	"bytes"
	"slices"
	"testing"

	"tontine/api"
)

// What is handed in is the caller's, before and after.
func TestPutKeepsNothingOfItsArgument(t *testing.T) {
	for _, n := range []int{1, 2, 8, 33, 70000} {
		b := made(t, 3)
		was := bytesOf(n, 5)
		lent := bytes.Clone(was)
		for id := range uint64(3) {
			puts(t, b, api.Packet{ID: id, From: 1, To: 2, Data: lent}, api.OK)
		}
		if !bytes.Equal(lent, was) {
			t.Error("Put changes what is handed in")
		}
		scribble(lent)
		changed := bytes.Clone(lent)
		for id := range uint64(3) {
			p, is := b.Take()
			if !is || !samePacket(p, api.Packet{ID: id, From: 1, To: 2, Data: was}) {
				t.Errorf("Take: %s, %t", packetText(p), is)
			}
			scribble(p.Data)
		}
		if !bytes.Equal(lent, changed) {
			t.Error("what Take answers is what was handed in to Put")
		}
	}
}

// The memory of an argument behind its length is not touched, though there is room for more.
func TestPutOfAPieceOfALongerOne(t *testing.T) {
	whole := []byte("0123456789")
	b := made(t, 3)
	puts(t, b, api.Packet{ID: 1, Data: whole[2:4]}, api.OK)
	puts(t, b, api.Packet{ID: 2, Data: whole[4:4]}, api.OK)
	puts(t, b, api.Packet{ID: 3, Data: whole[4:6]}, api.OK)
	for _, want := range []string{"23", "", "45"} {
		p, _ := b.Take()
		if string(p.Data) != want {
			t.Errorf("Take: %q, want %q", p.Data, want)
		}
		scribble(p.Data)
		scribble(append(p.Data, "and more"...))
	}
	if string(whole) != "0123456789" {
		t.Errorf("what was handed in is %q now", whole)
	}
}

// What was taken is the caller's: nothing that comes later changes it, and its changes are not seen.
func TestWhatIsTakenSharesNothing(t *testing.T) {
	b := made(t, 2)
	puts(t, b, api.Packet{ID: 1, Data: []byte("one")}, api.OK)
	puts(t, b, api.Packet{ID: 2, Data: []byte("two")}, api.OK)
	one, _ := b.Take()
	for i := range uint64(10) {
		puts(t, b, api.Packet{ID: 3 + i, Data: []byte("new")}, api.OK)
		p, _ := b.Take()
		scribble(p.Data)
	}
	if string(one.Data) != "one" {
		t.Errorf("what was taken is %q now", one.Data)
	}
	scribble(one.Data)
	takes(t, b, api.Packet{ID: 12, Data: []byte("new")})
	empty(t, b)
}

func TestListsShareNoMemory(t *testing.T) {
	c := calls(t, 50, 10, 20, 3)
	var want []api.Call
	for i := range 40 {
		c.Open(i, int64(i%4))
		want = append(want, callOf(uint64(i+1), i, int64(i%4), 1, int64(i%4+10)))
	}
	first, second := c.List(), c.List()
	smear(first)
	if !sameCalls(second, want) {
		t.Errorf("List: %v, want %v", second, want)
	}
	listIs(t, c, want...)
	c.Due(11)
	c.Close(3)
	if !sameCalls(second, want) {
		t.Errorf("a list that was answered is %v now", second)
	}
	// There is nothing behind a list that a later one uses.
	smear(append(slices.Clone(second), api.Call{}))
	smear(append(second, api.Call{}))
	if got := len(c.List()); got != 39 {
		t.Errorf("List: %d calls, want 39", got)
	}
}

func TestDueSharesNoMemory(t *testing.T) {
	c := calls(t, 50, 10, 20, 2)
	for range 20 {
		c.Open(1, 0)
	}
	c.Due(10)
	for range 20 {
		c.Open(2, 20)
	}
	// 20 calls are given up, and 20 are made once more.
	again, over := c.Due(30)
	wantAgain, wantOver := slices.Clone(again), slices.Clone(over)
	if len(again) != 20 || len(over) != 20 {
		t.Fatalf("Due: %d, %d, want 20 each", len(again), len(over))
	}
	smear(append(over, over...))
	smear(over)
	if !sameCalls(again, wantAgain) {
		t.Error("the calls that are made again share memory with those that are given up")
	}
	listIs(t, c, wantAgain...)
	over = slices.Clone(wantOver)
	smear(append(again, again...))
	smear(again)
	if !sameCalls(over, wantOver) {
		t.Error("the calls that are given up share memory with those that are made again")
	}
	listIs(t, c, wantAgain...)
	dueIs(t, c, 50, nil, wantAgain)
	listIs(t, c)
}

// What Due answered stays as it was when the calls go on.
func TestDueIsOfItsTime(t *testing.T) {
	c := calls(t, 5, 10, 1000, 4)
	for range 5 {
		c.Open(1, 0)
	}
	first, _ := c.Due(10)
	was := slices.Clone(first)
	list := c.List()
	c.Due(30)
	c.Close(2)
	c.Open(9, 30)
	if !sameCalls(first, was) || !sameCalls(list, was) {
		t.Errorf("what Due answered is %v now, want %v", first, was)
	}
}

// Nothing of what Close answers is asked again, though a caller may change it.
func TestCloseSharesNoMemory(t *testing.T) {
	c := calls(t, 5, 10, 1000, 4)
	opens(t, c, 1, 0, 1, api.OK)
	opens(t, c, 2, 0, 2, api.OK)
	x, err := c.Close(1)
	if err != nil {
		t.Fatal(err)
	}
	x.ID, x.Due, x.Tries = 2, 0, 9
	listIs(t, c, callOf(2, 2, 0, 1, 10))
	for _, w := range []struct {
		id   uint64
		want api.Errno
	}{{1, api.ErrInboxGone}, {3, api.ErrInboxNone}} {
		_, err := c.Close(w.id)
		f, is := err.(*api.Fault)
		if !is {
			t.Fatalf("Close(%d): %v", w.id, err)
		}
		f.Err, f.Of = api.ErrInboxFull, "spoilt"
		closes(t, c, w.id, api.Call{}, w.want)
	}
}
