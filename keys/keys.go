// Package keys is layer 1: see shared/doc/01-keys.md.
package keys

import (
	"cmp"

	"tontine/api"
)

const (
	wordBytes   = 8                          // bytes of each half of a position
	bucketShift = 58                         // leaves the six highest bits of a position's upper half
	apart       = api.Buckets / api.Replicas // places from a replica of a bucket to the next one
	quarter     = 1 << 62                    // of the ring, in a position's upper half
	enough      = 3                          // any two such sets of four replicas share two
)

// MayKey tells whether a text is a key.
func MayKey(s string) bool { return 1 <= len(s) && len(s) <= api.MaxKey }

// MayValue tells whether a text is a value.
func MayValue(s string) bool { return len(s) <= api.MaxValue }

// Of is a key's position.
func Of(key string) api.Pos {
	return api.Pos{Hi: word(key, 0), Lo: word(key, wordBytes)}
}

// word is the eight bytes of s from at on, the first one highest, so that numbers stand in the order of the texts.
func word(s string, at int) uint64 {
	var w uint64
	for i := at; i < at+wordBytes; i++ {
		w <<= 8
		if i < len(s) {
			w |= uint64(s[i])
		}
	}
	return w
}

// Cmp is how two positions stand.
func Cmp(a, b api.Pos) int {
	if a.Hi != b.Hi {
		return cmp.Compare(a.Hi, b.Hi)
	}
	return cmp.Compare(a.Lo, b.Lo)
}

// Symmetric is the i-th of a position's four.
func Symmetric(p api.Pos, i int) (api.Pos, api.Errno) {
	if !isReplica(i) {
		return api.Pos{}, api.ErrArg
	}
	// Whole quarters leave the lower half alone; the upper one goes round by itself.
	return api.Pos{Hi: p.Hi + uint64(i)*quarter, Lo: p.Lo}, api.OK
}

// Bucket is a position's bucket.
func Bucket(p api.Pos) int { return int(p.Hi >> bucketShift) }

// KeyBucket is a key's.
func KeyBucket(key string) int { return Bucket(Of(key)) }

// Place is where a replica of a bucket lies.
func Place(bucket, replica int) (int, api.Errno) {
	if !isBucket(bucket) || !isReplica(replica) {
		return 0, api.ErrArg
	}
	return (bucket + apart*replica) % api.Buckets, api.OK
}

// BucketAt is the bucket whose replica lies at a place.
func BucketAt(place, replica int) (int, api.Errno) {
	if !isPlace(place) || !isReplica(replica) {
		return 0, api.ErrArg
	}
	// A whole round more, since the remainder of a negative number is negative.
	return (place - apart*replica + api.Buckets) % api.Buckets, api.OK
}

// Homes are the places of a bucket's replicas.
func Homes(bucket int) ([4]int, api.Errno) {
	var homes [4]int
	if !isBucket(bucket) {
		return homes, api.ErrArg
	}
	for i := range homes {
		homes[i] = (bucket + apart*i) % api.Buckets
	}
	return homes, api.OK
}

// Span is the buckets of the first and the last key of a range.
func Span(from, to string) (int, int, api.Errno) {
	if from > to {
		return 0, 0, api.ErrArg
	}
	return KeyBucket(from), KeyBucket(to), api.OK
}

// Enough tells whether three of four are true.
func Enough(l [4]bool) bool {
	n := 0
	for _, is := range l {
		if is {
			n++
		}
	}
	return n >= enough
}

func isBucket(b int) bool { return 0 <= b && b < api.Buckets }

// isPlace asks for the number of buckets, since the ring has as many places.
func isPlace(p int) bool { return 0 <= p && p < api.Buckets }

func isReplica(i int) bool { return 0 <= i && i < api.Replicas }
