package store

import (
	"tontine/api"
	"tontine/keys"
)

// leastRead is how many replicas of a bucket must have been read.
const leastRead = 3

// Right tells whether an item may be.
func Right(i api.Item) bool {
	if _, e := keys.Homes(i.Bucket); e != api.OK || i.Ver >= api.MaxCount || !wasRead(i) {
		return false
	}
	if !i.Write {
		return len(i.Data) == 0
	}
	return areEntries(i.Bucket, i.Data)
}

// wasRead tells whether enough replicas of an item's bucket were read.
func wasRead(i api.Item) bool {
	n := 0
	for _, inc := range i.Incs {
		if inc != 0 {
			n++
		}
	}
	return n >= leastRead
}

// areEntries tells whether a bucket may hold this.
func areEntries(bucket int, l []api.Entry) bool {
	if len(l) > api.MaxBucket {
		return false
	}
	for i, e := range l {
		if !keys.MayKey(e.Key) || !keys.MayValue(e.Value) || keys.KeyBucket(e.Key) != bucket {
			return false
		}
		if i > 0 && l[i-1].Key >= e.Key {
			return false
		}
	}
	return true
}

// isLock tells whether a lock may be.
func isLock(l api.Lock) bool { return l.Tx != 0 && Right(l.Item) }
