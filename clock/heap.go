package clock

// timer is due at a time. The serial is greater the later it was set.
type timer struct {
	id     uint64
	due    int64
	serial uint64
}

// before is whether t is told ahead of u. No two serials are the same, so one of two timers is always before the other.
func (t timer) before(u timer) bool {
	if t.due != u.due {
		return t.due < u.due
	}
	return t.serial < u.serial
}

// heap is timers, of which none is before the one above it: below the index i are 2i+1 and 2i+2. The map tells at which index each number is.
type heap struct {
	list []timer
	at   map[uint64]int
}

func newHeap() heap { return heap{at: map[uint64]int{}} }

func (h *heap) has(id uint64) bool {
	_, is := h.at[id]
	return is
}

// set adds t, or replaces the timer that has its number.
func (h *heap) set(t timer) {
	i, is := h.at[t.id]
	if !is {
		i = len(h.list)
		h.list = append(h.list, t)
	}
	h.settle(t, i)
}

// remove takes away the timer of a number that is there; the last one takes over its index.
func (h *heap) remove(id uint64) {
	i, n := h.at[id], len(h.list)-1
	last := h.list[n]
	h.list = h.list[:n]
	delete(h.at, id)
	if i < n {
		h.settle(last, i)
	}
}

// settle puts t at the index i, which is free, or as far above or below it as t comes before or after the timers there.
func (h *heap) settle(t timer, i int) {
	before := t.before
	h.put(t, h.sink(h.rise(i, before), before))
}

// rise frees the index above i instead of it, and so on, as long as the timer to be put is before the one there.
func (h *heap) rise(i int, before func(timer) bool) int {
	for i > 0 && before(h.list[(i-1)/2]) {
		h.put(h.list[(i-1)/2], i)
		i = (i - 1) / 2
	}
	return i
}

// sink frees the index below i instead of it, and so on, as long as the timer to be put is not before the one there.
func (h *heap) sink(i int, before func(timer) bool) int {
	for {
		below := h.below(i)
		if below >= len(h.list) || before(h.list[below]) {
			return i
		}
		h.put(h.list[below], i)
		i = below
	}
}

// below is that index below i whose timer is before the other's, and past the end if there is none.
func (h *heap) below(i int) int {
	i = 2*i + 1
	if i+1 < len(h.list) && h.list[i+1].before(h.list[i]) {
		return i + 1
	}
	return i
}

func (h *heap) put(t timer, i int) {
	h.list[i] = t
	h.at[t.id] = i
}
