package quorum_test

import (
	"runtime"
	"slices"
	"strings"
	"testing"
	"unsafe"

	"tontine/api"
	"tontine/quorum"
)

// lend is a text whose bytes the caller may change.
func lend(s string) (string, []byte) {
	b := []byte(s)
	return unsafe.String(&b[0], len(b)), b
}

var junk = api.Entry{Key: "junk", Value: "junk"}

// roomy is a list with room behind its length, in which something stands.
func roomy(l []api.Entry) []api.Entry {
	all := make([]api.Entry, len(l), len(l)+3)
	copy(all, l)
	for i := len(l); i < cap(all); i++ {
		all[:cap(all)][i] = junk
	}
	return all
}

// spoil writes to all of a list, also behind its length.
func spoil(l []api.Entry) {
	for i := range l[:cap(l)] {
		l[:cap(l)][i] = api.Entry{Key: "spoilt", Value: "spoilt"}
	}
}

// An answer's entries are neither changed nor kept, and what stands behind them is left alone.
func TestAddKeepsNoMemory(t *testing.T) {
	for at := range 4 {
		r := made(t, 24)
		var all [4][]api.Entry
		want := []api.Entry{{Key: "a", Value: "1"}, {Key: "b", Value: "2"}}
		for replica := range 4 {
			all[replica] = roomy(want)
			ver := uint32(1)
			if replica == at {
				ver = 2
			}
			adds(t, r, replica, api.Answer{Round: 7, Inc: 1, Ver: ver, Data: all[replica]})
			addsNot(t, r, replica, api.Answer{Round: 7, Inc: 1, Ver: 9, Data: all[replica]}, api.ErrQuorumTwice)
		}
		for _, l := range all {
			if !slices.Equal(l, want) || slices.ContainsFunc(l[len(l):cap(l)], func(e api.Entry) bool { return e != junk }) {
				t.Errorf("Add made %v of the answer", l[:cap(l)])
			}
			spoil(l)
		}
		results(t, r, api.Item{Bucket: 24, Ver: 2, Incs: [4]uint32{1, 1, 1, 1}}, want)
	}
}

// One list may be given as the answer of all.
func TestAddOfOneListToAll(t *testing.T) {
	r := made(t, 24)
	l := holding("v")
	for replica := range 4 {
		adds(t, r, replica, api.Answer{Round: 7, Inc: 1, Ver: uint32(replica), Data: l})
		l[0].Value = strings.Repeat("w", replica+1)
	}
	results(t, r, api.Item{Bucket: 24, Ver: 3, Incs: [4]uint32{1, 1, 1, 1}}, holding("www"))
}

// Texts are the reader's from the call on, too: those of a caller may be pieces of what it uses again.
func TestTextsAreKept(t *testing.T) {
	key, keyBytes := lend("a-key-to-be-used-again")
	value, valueBytes := lend("a-value-to-be-used-again")
	r := made(t, 24)
	l := []api.Entry{{Key: key[:5], Value: value[:7]}}
	for replica := range enough {
		adds(t, r, replica, api.Answer{Round: 7, Inc: 1, Data: l})
	}
	if unsafe.StringData(l[0].Key) != &keyBytes[0] || unsafe.StringData(l[0].Value) != &valueBytes[0] {
		t.Error("Add wrote other texts to the answer")
	}
	clear(keyBytes)
	clear(valueBytes)
	results(t, r, api.Item{Bucket: 24, Incs: [4]uint32{1, 1, 1, 0}}, []api.Entry{{Key: "a-key", Value: "a-value"}})
}

// What is told is the caller's: who writes to it changes neither the reader nor another answer.
func TestResultsAreNewMemory(t *testing.T) {
	r := made(t, 24)
	adds(t, r, 0, told(1, 1, "v"))
	for _, replica := range []int{1, 2} {
		adds(t, r, replica, told(1, 0, "w"))
	}
	want := api.Item{Bucket: 24, Ver: 1, Incs: [4]uint32{1, 1, 1, 0}}
	for range 3 {
		_, one, _ := r.Result()
		_, two, _ := r.Result()
		spoil(one)
		if !slices.Equal(two, holding("v")) {
			t.Errorf("%v", two)
		}
		results(t, r, want, holding("v"))
		for _, list := range []func() []int{r.Missing, r.Stale} {
			one, two := list(), list()
			was := slices.Clone(two)
			for i := range one[:cap(one)] {
				one[:cap(one)][i] = 9
			}
			if !slices.Equal(two, was) {
				t.Errorf("%v, want %v", two, was)
			}
		}
		lists(t, r, []int{3}, []int{1, 2})
	}
	_, early, _ := r.Result()
	adds(t, r, 3, told(1, 2, "later"))
	if !slices.Equal(early, holding("v")) {
		t.Errorf("a later answer made %v of what was told", early)
	}
}

// heap is how much memory is in use.
func heap() uint64 {
	runtime.GC()
	var m runtime.MemStats
	runtime.ReadMemStats(&m)
	return m.HeapAlloc
}

// A reader keeps no entries but those that it tells, and of these no more than their own texts.
func TestReadersKeepLittle(t *testing.T) {
	before := heap()
	var readers []*quorum.Reader
	for range 200 {
		r := made(t, 24)
		for replica := range 4 {
			long := strings.Repeat("v", 50000+replica)
			a := told(1, uint32(5-replica), long)
			if replica == 0 {
				a.Data = []api.Entry{{Key: long[:5], Value: long[:5]}}
			}
			r.Add(replica, a)
			a.Ver = 9
			r.Add(replica, a)
		}
		readers = append(readers, r)
	}
	if after := heap(); after > before+10<<20 {
		t.Errorf("%d bytes are in use, and before that %d", after, before)
	}
	runtime.KeepAlive(readers)
}

// Entries that a newer answer has replaced are not kept either.
func TestReadersForgetOlderEntries(t *testing.T) {
	before := heap()
	var readers []*quorum.Reader
	for range 200 {
		r := made(t, 24)
		for replica := range 4 {
			r.Add(replica, told(1, uint32(replica), strings.Repeat("v", 50000*(3-replica))))
		}
		readers = append(readers, r)
	}
	if after := heap(); after > before+10<<20 {
		t.Errorf("%d bytes are in use, and before that %d", after, before)
	}
	runtime.KeepAlive(readers)
}
