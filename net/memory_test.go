package net_test

import (
	"bytes"
	"slices"
	"testing"

	"tontine/api"
)

// What is handed in is the caller's, before and after.
func TestSendKeepsNothingOfItsArgument(t *testing.T) {
	for _, n := range []int{1, 2, 8, 33, mostBytes} {
		net := made(t, 2)
		was := bytesOf(n, 5)
		lent := bytes.Clone(was)
		gets(t, "Send", 1, api.OK)(net.Send(1, 2, lent))
		scribble(lent)
		tells(t, "Look", api.Packet{ID: 1, From: 1, To: 2, Data: was}, api.OK)(net.Look(1))
		changed := bytes.Clone(lent)
		fails(t, "Spoil", net.Spoil(1, 0, 255), api.OK)
		if !bytes.Equal(lent, changed) {
			t.Error("Spoil changes what was handed in to Send")
		}
		got, _ := net.Take(1)
		scribble(got.Data)
		if !bytes.Equal(lent, changed) {
			t.Error("what Take answers is what was handed in to Send")
		}
	}
}

// The memory of an argument behind its length is not touched, though there is room for more.
func TestSendOfAPieceOfALongerOne(t *testing.T) {
	whole := []byte("0123456789")
	net := made(t, 4)
	gets(t, "Send", 1, api.OK)(net.Send(1, 2, whole[2:4]))
	gets(t, "Send", 2, api.OK)(net.Send(1, 2, whole[4:4]))
	gets(t, "Twice", 3, api.OK)(net.Twice(1))
	fails(t, "Spoil", net.Spoil(1, 1, 9), api.OK)
	fails(t, "Spoil", net.Spoil(1, 2, 9), api.ErrArg)
	fails(t, "Spoil", net.Spoil(2, 0, 9), api.ErrArg)
	for _, id := range []uint64{1, 2, 3} {
		p, _ := net.Look(id)
		scribble(p.Data)
		p, _ = net.Take(id)
		scribble(append(p.Data, "and more"...))
	}
	if string(whole) != "0123456789" {
		t.Errorf("what was handed in is %q now", whole)
	}
}

func TestAnswersShareNoMemory(t *testing.T) {
	net := made(t, 4)
	gets(t, "Send", 1, api.OK)(net.Send(1, 2, []byte("abcdef")))
	gets(t, "Twice", 2, api.OK)(net.Twice(1))
	first, _ := net.Look(1)
	second, _ := net.Look(1)
	third, _ := net.Look(2)
	same := func(call string, want string, got []byte) {
		t.Helper()
		if string(got) != want {
			t.Errorf("%s: %q, want %q", call, got, want)
		}
	}
	scribble(first.Data)
	same("the second look", "abcdef", second.Data)
	same("the look at the double", "abcdef", third.Data)
	// What was answered is not spoilt later.
	fails(t, "Spoil", net.Spoil(1, 0, 1), api.OK)
	fails(t, "Spoil", net.Spoil(2, 1, 1), api.OK)
	same("the second look", "abcdef", second.Data)
	same("the look at the double", "abcdef", third.Data)
	scribble(second.Data)
	scribble(third.Data)
	took, _ := net.Take(1)
	same("Take", "`bcdef", took.Data)
	scribble(took.Data)
	took, _ = net.Take(2)
	same("Take", "accdef", took.Data)
}

// A double that is left behind is not the one that was taken, though this one's bytes are the caller's now.
func TestWhatIsTakenSharesNothingWithItsDouble(t *testing.T) {
	net := made(t, 4)
	gets(t, "Send", 1, api.OK)(net.Send(1, 2, []byte("abc")))
	gets(t, "Twice", 2, api.OK)(net.Twice(1))
	gets(t, "Twice", 3, api.OK)(net.Twice(2))
	for _, id := range []uint64{2, 1} {
		p, _ := net.Take(id)
		scribble(p.Data)
		tells(t, "Look", api.Packet{ID: 3, From: 1, To: 2, Data: []byte("abc")}, api.OK)(net.Look(3))
	}
	gets(t, "Twice", 4, api.OK)(net.Twice(3))
	tells(t, "Take", api.Packet{ID: 4, From: 1, To: 2, Data: []byte("abc")}, api.OK)(net.Take(4))
}

func TestListsShareNoMemory(t *testing.T) {
	net := made(t, 50)
	var want []uint64
	for i := range 40 {
		net.Send(1, i%2, nil)
		want = append(want, uint64(i+1))
	}
	first, second := net.List(), net.List()
	numbers(first)
	if !slices.Equal(second, want) {
		t.Errorf("List: %v, want %v", second, want)
	}
	lists(t, net, want...)
	if got := net.Forget(0); got != 20 {
		t.Errorf("Forget(0): %d, want 20", got)
	}
	if !slices.Equal(second, want) {
		t.Errorf("a list that was answered is %v now", second)
	}
}

// What Told answers stays as it was.
func TestToldIsOfItsTime(t *testing.T) {
	net := made(t, 5)
	before := net.Told()
	net.Send(1, 2, []byte("a"))
	net.Lose(1)
	if before != (api.Traffic{}) {
		t.Errorf("Told: %v", before)
	}
	counts(t, net, api.Traffic{Sent: 1, Lost: 1})
}
