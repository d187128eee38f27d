package inbox

import (
	"cmp"
	"errors"
	"slices"

	"tontine/api"
)

const (
	doublings = 30             // as many of a wait of 1 make the longest one
	longest   = 1 << doublings // as far as the time between two tries may be set
)

// Calls are calls that wait for answers.
type Calls struct {
	room       int
	base, most int64
	tries      int
	opened     uint64 // the number of the call that was opened last
	open       map[uint64]api.Call
}

// Wait is how long one waits behind the k-th try.
func Wait(base, most int64, k int) int64 {
	if !isWait(base, most) || k < 0 {
		return 0
	}
	// More doublings would not make it longer, and might not fit 64 bits.
	return min(base<<min(k, doublings), most)
}

// NewCalls is none, with room for so many.
func NewCalls(room int, base, most int64, tries int) (*Calls, api.Errno) {
	if !isRoom(room) || !isWait(base, most) || tries < 1 || tries > api.MaxTries {
		return nil, api.ErrArg
	}
	return &Calls{room: room, base: base, most: most, tries: tries, open: map[uint64]api.Call{}}, api.OK
}

// Open makes a call; its number.
func (c *Calls) Open(to int, now int64) (uint64, api.Errno) {
	if c == nil || !isTime(now) {
		return 0, api.ErrArg
	}
	if len(c.open) >= c.room {
		return 0, api.ErrInboxFull
	}
	c.opened++
	c.open[c.opened] = c.tried(api.Call{ID: c.opened, To: to, Since: now}, now)
	return c.opened, api.OK
}

// Close ends a call that was answered.
func (c *Calls) Close(id uint64) (api.Call, error) {
	x, err := c.find(id)
	// Every number up to the last one was given to a call: where there is none now, it has ended.
	if errors.Is(err, api.ErrInboxNone) && id >= 1 && id <= c.opened {
		err = fault(api.ErrInboxGone)
	}
	if err != nil {
		return api.Call{}, err
	}
	delete(c.open, id)
	return x, nil
}

// Due is the calls that are to be made again, and those that are given up.
func (c *Calls) Due(now int64) ([]api.Call, []api.Call) {
	if !isTime(now) {
		return nil, nil
	}
	var again, over []api.Call
	for _, x := range c.sorted(byDue, func(x api.Call) bool { return x.Due <= now }) {
		if x.Tries >= c.tries {
			delete(c.open, x.ID)
			over = append(over, x)
			continue
		}
		x = c.tried(x, now)
		c.open[x.ID] = x
		again = append(again, x)
	}
	return again, over
}

// Next is when the next one is due, if there is one.
func (c *Calls) Next() (int64, bool) {
	calls := c.sorted(byDue, all)
	if len(calls) == 0 {
		return 0, false
	}
	return calls[0].Due, true
}

// List is all calls, by their numbers.
func (c *Calls) List() []api.Call {
	return c.sorted(byNumber, all)
}

// find is the call of a number, or the fault that there is none.
func (c *Calls) find(id uint64) (api.Call, error) {
	if c == nil {
		return api.Call{}, fault(api.ErrArg)
	}
	x, is := c.open[id]
	if !is {
		return api.Call{}, fault(api.ErrInboxNone)
	}
	return x, nil
}

// tried is a call behind one more try.
func (c *Calls) tried(x api.Call, now int64) api.Call {
	x.Due = now + Wait(c.base, c.most, x.Tries)
	x.Tries++
	return x
}

// sorted is those calls that are wanted, in an order that tells any two apart: the map's own one must not be seen.
func (c *Calls) sorted(order func(x, y api.Call) int, wanted func(api.Call) bool) []api.Call {
	if c == nil {
		return nil
	}
	var calls []api.Call
	for _, x := range c.open {
		if wanted(x) {
			calls = append(calls, x)
		}
	}
	slices.SortFunc(calls, order)
	return calls
}

func all(api.Call) bool { return true }

func byNumber(x, y api.Call) int { return cmp.Compare(x.ID, y.ID) }

func byDue(x, y api.Call) int {
	return cmp.Or(cmp.Compare(x.Due, y.Due), byNumber(x, y))
}

func fault(e api.Errno) error { return &api.Fault{Err: e, Of: "call"} }

func isWait(base, most int64) bool { return base >= 1 && most >= base && most <= longest }

func isTime(now int64) bool { return now >= 0 && now <= api.MaxTime }
