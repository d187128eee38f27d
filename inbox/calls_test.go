package inbox_test

import (
	"math"
	"slices"
	"testing"

	"tontine/api"
	"tontine/inbox"
)

// newIs makes calls, or is told that they may not be.
func newIs(t *testing.T, room int, base, most int64, tries int, may bool) {
	t.Helper()
	c, e := inbox.NewCalls(room, base, most, tries)
	if may && (c == nil || e != api.OK) || !may && (c != nil || e != api.ErrArg) {
		t.Errorf("NewCalls(%d, %d, %d, %d): %v, %d", room, base, most, tries, c, e)
	}
	if may && c != nil {
		listIs(t, c)
	}
}

func TestNewCalls(t *testing.T) {
	for _, room := range []int{1, 2, 100, 255, 256} {
		newIs(t, room, 10, 35, 2, true)
	}
	for _, room := range wrongRooms {
		newIs(t, room, 10, 35, 2, false)
	}
	for _, tries := range []int{1, 2, 8, 15, 16} {
		newIs(t, 2, 10, 35, tries, true)
	}
	for _, tries := range []int{math.MinInt, -16, -1, 0, 17, 18, 32, 1 << 31, 1<<32 + 1, math.MaxInt} {
		newIs(t, 2, 10, 35, tries, false)
	}
	for _, w := range [][2]int64{{1, 1}, {1, 2}, {10, 10}, {10, 11}, {1, longest - 1}, {1, longest}, {longest - 1, longest}, {longest, longest}} {
		newIs(t, 2, w[0], w[1], 2, true)
	}
	for _, w := range [][2]int64{{0, 0}, {0, 1}, {-1, 1}, {-1, -1}, {2, 1}, {10, 9}, {1, 0}, {1, -1}, {1, longest + 1}, {longest, longest + 1}, {longest + 1, longest + 1}, {longest, longest - 1}, {math.MinInt64, 5}, {5, math.MinInt64}, {5, math.MaxInt64}, {math.MaxInt64, math.MaxInt64}} {
		newIs(t, 2, w[0], w[1], 2, false)
	}
	for _, base := range waits {
		for _, most := range waits {
			newIs(t, 1, base, most, 1, delay(base, most, 0) > 0)
		}
	}
	// What is wrong is not made good by what is right, nor by more that is wrong.
	newIs(t, 0, 10, 35, 0, false)
	newIs(t, 257, 0, 35, 17, false)
	newIs(t, 1, 36, 35, 0, false)
	newIs(t, 1, 1, 1, 1, true)
	newIs(t, 256, longest, longest, 16, true)
}

// There is room for so many calls, and for no more.
func TestRoomForCalls(t *testing.T) {
	for _, room := range []int{1, 2, 3, 255, 256} {
		c := calls(t, room, 10, 35, 2)
		var want []api.Call
		for i := range room {
			opens(t, c, i, 5, uint64(i+1), api.OK)
			want = append(want, callOf(uint64(i+1), i, 5, 1, 15))
		}
		for range 2 {
			opens(t, c, 1, 5, 0, api.ErrInboxFull)
			listIs(t, c, want...)
		}
		// The number that was not given is the next one's; none is used twice.
		closes(t, c, uint64(room), want[room-1], api.OK)
		opens(t, c, 1, 5, uint64(room+1), api.OK)
		opens(t, c, 1, 5, 0, api.ErrInboxFull)
		closes(t, c, uint64(room+1), callOf(uint64(room+1), 1, 5, 1, 15), api.OK)
		listIs(t, c, want[:room-1]...)
	}
}

// Calls that are made again keep their room, and those that are given up leave it.
func TestRoomBehindDue(t *testing.T) {
	c := calls(t, 2, 10, 10, 2)
	opens(t, c, 1, 0, 1, api.OK)
	opens(t, c, 2, 5, 2, api.OK)
	c.Due(10)
	opens(t, c, 3, 10, 0, api.ErrInboxFull)
	c.Due(15)
	opens(t, c, 3, 15, 0, api.ErrInboxFull)
	c.Due(20)
	opens(t, c, 3, 20, 3, api.OK)
	opens(t, c, 4, 20, 0, api.ErrInboxFull)
}

func TestOpen(t *testing.T) {
	for _, base := range []int64{1, 10, longest} {
		for _, now := range []int64{0, 1, 100, lastTime - 1, lastTime} {
			c := calls(t, mostRoom, base, longest, 3)
			var want []api.Call
			for i, to := range nodes {
				opens(t, c, to, now, uint64(i+1), api.OK)
				want = append(want, callOf(uint64(i+1), to, now, 1, now+base))
				listIs(t, c, want...)
			}
		}
	}
}

func TestOpenAtWhatIsNoTime(t *testing.T) {
	c := calls(t, 2, 10, 35, 2)
	for _, now := range wrongTimes {
		opens(t, c, 1, now, 0, api.ErrArg)
		listIs(t, c)
	}
	// No number is used up by an error.
	opens(t, c, 1, lastTime, 1, api.OK)
	opens(t, c, 2, 0, 2, api.OK)
	want := c.List()
	for _, now := range wrongTimes {
		opens(t, c, 1, now, 0, api.ErrArg)
	}
	for _, now := range []int64{0, 1, lastTime} {
		opens(t, c, 1, now, 0, api.ErrInboxFull)
	}
	listIs(t, c, want...)
	closes(t, c, 1, want[0], api.OK)
	for _, now := range wrongTimes {
		opens(t, c, 1, now, 0, api.ErrArg)
	}
	opens(t, c, 1, 3, 3, api.OK)
}

// Time may go back from one call to the next: each is due by its own.
func TestOpenAtTimesThatGoBack(t *testing.T) {
	c := calls(t, 5, 10, 35, 2)
	opens(t, c, 1, 500, 1, api.OK)
	opens(t, c, 1, 20, 2, api.OK)
	opens(t, c, 1, 300, 3, api.OK)
	listIs(t, c,
		callOf(1, 1, 500, 1, 510),
		callOf(2, 1, 20, 1, 30),
		callOf(3, 1, 300, 1, 310))
}

func TestClose(t *testing.T) {
	c := calls(t, 5, 10, 35, 2)
	for i := range 5 {
		opens(t, c, 10+i, int64(i), uint64(i+1), api.OK)
	}
	list := c.List()
	// In any order, with what is left told behind each.
	for _, id := range []uint64{3, 1, 5, 2, 4} {
		i := slices.IndexFunc(list, func(x api.Call) bool { return x.ID == id })
		closes(t, c, id, list[i], api.OK)
		list = slices.Delete(list, i, i+1)
		listIs(t, c, list...)
		closes(t, c, id, api.Call{}, api.ErrInboxGone)
		closes(t, c, 6, api.Call{}, api.ErrInboxNone)
		listIs(t, c, list...)
	}
}

func TestCloseOfWhatNeverWas(t *testing.T) {
	c := calls(t, 2, 10, 35, 2)
	all := func(more ...uint64) {
		t.Helper()
		for _, id := range append(more, wrongNumbers...) {
			closes(t, c, id, api.Call{}, api.ErrInboxNone)
		}
	}
	all(1, 2, 3)
	opens(t, c, 1, 0, 1, api.OK)
	all(2, 3)
	opens(t, c, 1, 0, 2, api.OK)
	all(3, 4)
	// A call that was not opened for want of room, or at no time, has no number.
	opens(t, c, 1, 0, 0, api.ErrInboxFull)
	opens(t, c, 1, -1, 0, api.ErrArg)
	all(3, 4)
	c.Close(1)
	c.Close(2)
	all(3, 4)
}

// What has ended is gone for ever, closed or given up, and however many were opened behind it.
func TestCloseOfWhatIsGone(t *testing.T) {
	c := calls(t, 2, 10, 10, 1)
	opens(t, c, 1, 0, 1, api.OK)
	opens(t, c, 2, 5, 2, api.OK)
	closes(t, c, 1, callOf(1, 1, 0, 1, 10), api.OK)
	dueIs(t, c, 15, nil, []api.Call{{ID: 2, To: 2, Since: 5, Tries: 1, Due: 15}})
	gone := func(last uint64) {
		t.Helper()
		for id := uint64(1); id <= last; id++ {
			closes(t, c, id, api.Call{}, api.ErrInboxGone)
		}
		closes(t, c, last+1, api.Call{}, api.ErrInboxNone)
		closes(t, c, 0, api.Call{}, api.ErrInboxNone)
		closes(t, c, math.MaxUint64, api.Call{}, api.ErrInboxNone)
	}
	gone(2)
	for id := uint64(3); id < 300; id++ {
		opens(t, c, 3, 20, id, api.OK)
		if id%2 == 0 {
			c.Due(40)
		} else {
			c.Close(id)
		}
		if id%50 == 0 {
			gone(id)
		}
	}
	gone(299)
}

// Close tells how often the call was made and when it would have been made again.
func TestCloseBehindSomeTries(t *testing.T) {
	for tries := 1; tries <= 5; tries++ {
		c := calls(t, 1, 10, 35, 6)
		opens(t, c, 4, 0, 1, api.OK)
		due := int64(10)
		for k := 1; k < tries; k++ {
			c.Due(due)
			due += delay(10, 35, k)
		}
		closes(t, c, 1, callOf(1, 4, 0, tries, due), api.OK)
		closes(t, c, 1, api.Call{}, api.ErrInboxGone)
		listIs(t, c)
		// What was closed is never due.
		dueIs(t, c, lastTime, nil, nil)
	}
}
