package store

import (
	"slices"
	"strings"

	"tontine/api"
)

// cloneCopy is a copy with memory of its own.
func cloneCopy(c api.Copy) api.Copy {
	c.Data = cloneEntries(c.Data)
	c.Locks = slices.Clone(c.Locks)
	for i, l := range c.Locks {
		c.Locks[i] = cloneLock(l)
	}
	c.Votes = slices.Clone(c.Votes)
	return c
}

func cloneLock(l api.Lock) api.Lock {
	l.Item.Data = cloneEntries(l.Item.Data)
	return l
}

// cloneEntries clones the texts too, since they may be pieces of longer ones, all of which would be kept with them.
func cloneEntries(l []api.Entry) []api.Entry {
	l = slices.Clone(l)
	for i, e := range l {
		l[i] = api.Entry{Key: strings.Clone(e.Key), Value: strings.Clone(e.Value)}
	}
	return l
}
