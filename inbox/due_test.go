package inbox_test

import (
	"slices"
	"testing"

	"tontine/api"
)

func TestDueBeforeAtAndBehind(t *testing.T) {
	for _, since := range []int64{0, 1, 100, lastTime - 10} {
		c := calls(t, 2, 10, 35, 3)
		opens(t, c, 7, since, 1, api.OK)
		first := callOf(1, 7, since, 1, since+10)
		for _, now := range []int64{0, since, since + 1, since + 8, since + 9} {
			dueIs(t, c, now, nil, nil)
			listIs(t, c, first)
		}
		second := callOf(1, 7, since, 2, since+30)
		dueIs(t, c, since+10, []api.Call{second}, nil)
		listIs(t, c, second)
		dueIs(t, c, since+10, nil, nil)
		listIs(t, c, second)
	}
}

// The next try is as far from the one that was made as the delay is long, however late that one was.
func TestDueBehindTime(t *testing.T) {
	c := calls(t, 1, 10, 35, 4)
	opens(t, c, 7, 100, 1, api.OK)
	x := callOf(1, 7, 100, 1, 110)
	listIs(t, c, x)
	x.Tries, x.Due = 2, 519
	dueIs(t, c, 499, []api.Call{x}, nil)
	dueIs(t, c, 518, nil, nil)
	x.Tries, x.Due = 3, 555
	dueIs(t, c, 520, []api.Call{x}, nil)
	listIs(t, c, x)
	x.Tries, x.Due = 4, 1035
	dueIs(t, c, 1000, []api.Call{x}, nil)
	dueIs(t, c, 1034, nil, nil)
	// What is given up is told as it was.
	dueIs(t, c, lastTime, nil, []api.Call{x})
	listIs(t, c)
	dueIs(t, c, lastTime, nil, nil)
}

func TestGivenUpBehindTheLastTry(t *testing.T) {
	for tries := 1; tries <= mostTries; tries++ {
		for _, w := range [][2]int64{{1, 1}, {10, 35}, {1, longest}, {3, 3 << 20}, {longest, longest}} {
			c := calls(t, 1, w[0], w[1], tries)
			opens(t, c, 3, 50, 1, api.OK)
			x := callOf(1, 3, 50, 1, 50+w[0])
			for k := 1; k < tries; k++ {
				dueIs(t, c, x.Due-1, nil, nil)
				now := x.Due
				x.Tries, x.Due = k+1, now+delay(w[0], w[1], k)
				dueIs(t, c, now, []api.Call{x}, nil)
				listIs(t, c, x)
			}
			dueIs(t, c, x.Due-1, nil, nil)
			listIs(t, c, x)
			dueIs(t, c, x.Due, nil, []api.Call{x})
			listIs(t, c)
			dueIs(t, c, x.Due+longest, nil, nil)
			closes(t, c, 1, api.Call{}, api.ErrInboxGone)
		}
	}
}

// Calls that are due at once come by when they were due, and by their numbers where that is the same.
func TestDueOfSeveral(t *testing.T) {
	c := calls(t, 9, 10, 35, 2)
	for i, since := range []int64{40, 20, 40, 0, 20, 90, 0, 41, 20} {
		opens(t, c, i, since, uint64(i+1), api.OK)
	}
	again := func(id uint64, since, due int64) api.Call {
		return callOf(id, int(id-1), since, 2, due)
	}
	dueIs(t, c, 50, []api.Call{again(4, 0, 70), again(7, 0, 70), again(2, 20, 70), again(5, 20, 70), again(9, 20, 70), again(1, 40, 70), again(3, 40, 70)}, nil)
	dueIs(t, c, 51, []api.Call{again(8, 41, 71)}, nil)
	// They are equally due now: only their numbers tell them apart.
	dueIs(t, c, 70, nil, []api.Call{again(1, 40, 70), again(2, 20, 70), again(3, 40, 70), again(4, 0, 70), again(5, 20, 70), again(7, 0, 70), again(9, 20, 70)})
	dueIs(t, c, lastTime, []api.Call{again(6, 90, lastTime+20)}, []api.Call{again(8, 41, 71)})
	listIs(t, c, again(6, 90, lastTime+20))
}

// A full set, opened in the reverse order of when they are due.
func TestDueOfAll(t *testing.T) {
	c := calls(t, mostRoom, 5, 1000, 2)
	for i := range mostRoom {
		opens(t, c, i, int64(1000-i), uint64(i+1), api.OK)
	}
	again, over := c.Due(2000)
	if len(again) != mostRoom || len(over) != 0 {
		t.Fatalf("Due: %d, %d", len(again), len(over))
	}
	for i, x := range again {
		if want := callOf(uint64(mostRoom-i), mostRoom-1-i, int64(1000-255+i), 2, 2010); x != want {
			t.Errorf("%d: %v, want %v", i, x, want)
		}
	}
	slices.Reverse(again)
	listIs(t, c, again...)
	dueIs(t, c, 2010, nil, again)
	listIs(t, c)
}

// Some calls are given up in the turn in which others are made again; each list keeps the order.
func TestLastTriesAndFurtherOnesInATurn(t *testing.T) {
	c := calls(t, 6, 10, 10, 2)
	opens(t, c, 0, 0, 1, api.OK)
	opens(t, c, 0, 0, 2, api.OK)
	opens(t, c, 0, 3, 3, api.OK)
	c.Due(12)
	opens(t, c, 0, 9, 4, api.OK)
	opens(t, c, 0, 12, 5, api.OK)
	opens(t, c, 0, 4, 6, api.OK)
	list := c.List()
	for i, want := range []api.Call{callOf(1, 0, 0, 2, 22), callOf(2, 0, 0, 2, 22), callOf(3, 0, 3, 1, 13), callOf(4, 0, 9, 1, 19), callOf(5, 0, 12, 1, 22), callOf(6, 0, 4, 1, 14)} {
		if list[i] != want {
			t.Errorf("List: %v, want %v", list[i], want)
		}
	}
	again := []api.Call{callOf(3, 0, 3, 2, 32), callOf(6, 0, 4, 2, 32), callOf(4, 0, 9, 2, 32), callOf(5, 0, 12, 2, 32)}
	dueIs(t, c, 22, again, []api.Call{list[0], list[1]})
	listIs(t, c, again[0], again[2], again[3], again[1])
	closes(t, c, 1, api.Call{}, api.ErrInboxGone)
	closes(t, c, 4, again[2], api.OK)
	dueIs(t, c, 32, nil, []api.Call{again[0], again[3], again[1]})
	listIs(t, c)
}

// What was made again in a turn is not due in it once more, though it is late by many delays.
func TestOneTryATurn(t *testing.T) {
	c := calls(t, 1, 1, 1, 16)
	opens(t, c, 0, 0, 1, api.OK)
	for k := 2; k <= 16; k++ {
		now := int64(1000 * k)
		dueIs(t, c, now, []api.Call{{ID: 1, Tries: k, Due: now + 1}}, nil)
		dueIs(t, c, now, nil, nil)
	}
	dueIs(t, c, 17000, nil, []api.Call{{ID: 1, Tries: 16, Due: 16001}})
}

func TestDueAtTimesThatGoBack(t *testing.T) {
	c := calls(t, 3, 10, 80, 3)
	opens(t, c, 1, 100, 1, api.OK)
	dueIs(t, c, 500, []api.Call{callOf(1, 1, 100, 2, 520)}, nil)
	dueIs(t, c, 110, nil, nil)
	dueIs(t, c, 0, nil, nil)
	opens(t, c, 2, 50, 2, api.OK)
	dueIs(t, c, 59, nil, nil)
	dueIs(t, c, 60, []api.Call{callOf(2, 2, 50, 2, 80)}, nil)
	dueIs(t, c, 80, []api.Call{callOf(2, 2, 50, 3, 120)}, nil)
	dueIs(t, c, 519, nil, []api.Call{callOf(2, 2, 50, 3, 120)})
	dueIs(t, c, 520, []api.Call{callOf(1, 1, 100, 3, 560)}, nil)
	dueIs(t, c, 519, nil, nil)
	listIs(t, c, callOf(1, 1, 100, 3, 560))
}

func TestDueAtWhatIsNoTime(t *testing.T) {
	c := calls(t, 3, 10, 80, 1)
	for _, now := range wrongTimes {
		dueIs(t, c, now, nil, nil)
	}
	opens(t, c, 1, 0, 1, api.OK)
	opens(t, c, 2, lastTime-10, 2, api.OK)
	opens(t, c, 3, lastTime-9, 3, api.OK)
	list := c.List()
	for _, now := range wrongTimes {
		dueIs(t, c, now, nil, nil)
		listIs(t, c, list...)
	}
	dueIs(t, c, lastTime, nil, list[:2])
	// What is due behind the last time can be closed only.
	listIs(t, c, list[2])
	dueIs(t, c, lastTime, nil, nil)
	closes(t, c, 3, list[2], api.OK)
	listIs(t, c)
}

// Nothing wrong that was asked changes anything, and nothing that only looks does.
func TestErrorsChangeNothing(t *testing.T) {
	p := pairOf(t, 2, 10, 40, 2)
	p.open(1, 100)
	p.open(2, 105)
	p.due(110)
	for range 3 {
		p.open(3, 110)
		p.open(3, -1)
		p.close(0)
		p.close(3)
		p.due(-1)
		p.due(lastTime + 1)
		p.due(114)
		p.looks()
	}
	p.close(1)
	for range 3 {
		p.close(1)
		p.looks()
	}
	p.due(115)
	p.due(150)
	p.looks()
	p.open(4, 150)
	p.looks()
}

// Next is told behind each change.
func TestNext(t *testing.T) {
	c := calls(t, 4, 10, 35, 2)
	next := func(want int64, wantIs bool) {
		t.Helper()
		for range 2 {
			if got, is := c.Next(); got != want || is != wantIs {
				t.Errorf("Next: %d, %t, want %d, %t", got, is, want, wantIs)
			}
		}
	}
	next(0, false)
	c.Open(1, 100)
	next(110, true)
	c.Open(1, 90)
	next(100, true)
	c.Open(1, 95)
	next(100, true)
	c.Due(99)
	next(100, true)
	c.Due(100) // call 2 is due at 120 now
	next(105, true)
	c.Close(3)
	next(110, true)
	c.Due(111) // call 1 is due at 131 now
	next(120, true)
	c.Due(120) // call 2 is given up
	next(131, true)
	c.Open(1, 0)
	next(10, true)
	c.Close(4)
	next(131, true)
	c.Due(lastTime)
	next(0, false)
	c.Open(1, lastTime)
	next(lastTime+10, true)
	c.Close(5)
	next(0, false)
}
