package store_test

import (
	"math"
	"strings"
	"testing"

	"tontine/api"
	"tontine/store"
)

// copies are some that may be installed, also such as no replica comes to by itself.
func copies() []api.Copy {
	all := api.Copy{State: api.StateFull, Inc: 3, Ver: 4, Data: entriesOf(24, 3, "v"), Locks: []api.Lock{reads(1, 24, 4), reads(2, 24, 5)}, Fences: [4]uint32{1, 0, 2, 3}, Votes: []api.Voted{{Tx: 1, Vote: api.VotePrepared}, {Tx: 2, Vote: api.VotePrepared}, {Tx: 3, Vote: api.VoteAbort}}}
	recovering := all
	recovering.State = api.StateRecovering
	odd := api.Copy{State: api.StateFull, Inc: greatest, Ver: greatest, Data: []api.Entry{{Key: "z"}, {Key: "a", Value: strings.Repeat("v", 99)}, {}, {Key: "a"}}, Fences: [4]uint32{greatest, greatest, 0, greatest}}
	odd.Locks = []api.Lock{{}, writes(1, 3, greatest, "v"), writes(1, -5, 0, "w"), {Tx: 9, Item: api.Item{Bucket: math.MinInt, Data: entriesOf(1, 20, "x")}}}
	odd.Votes = []api.Voted{{}, {Tx: 1, Vote: -3}, {Tx: 1, Vote: math.MaxInt}, {Tx: 1, Vote: api.VoteNone}}
	large := api.Copy{State: api.StateRecovering, Inc: 1, Data: entriesOf(24, 50, "v")}
	for tx := range uint64(200) {
		large.Locks = append(large.Locks, writes(tx, 24, 0, "v"))
		large.Votes = append(large.Votes, api.Voted{Tx: tx, Vote: api.VotePrepared})
	}
	return []api.Copy{{State: api.StateFull, Inc: 1}, {State: api.StateRecovering, Inc: greatest}, all, recovering, odd, large}
}

// What is installed is what is extracted, wherever that is, and as often as it goes from store to store.
func TestInstallOfWhatWasExtracted(t *testing.T) {
	for _, c := range copies() {
		for _, at := range [][2]int{{0, 0}, {24, 0}, {24, 3}, {lastBucket, 2}} {
			s := installed(t, at[0], at[1], c)
			holds(t, s, at[0], at[1], c)
			if got := s.State(at[0], at[1]); got != c.State {
				t.Errorf("State: %d, want %d", got, c.State)
			}
			for range 3 {
				s = installed(t, at[0], at[1], extracted(t, s, at[0], at[1]))
				holds(t, s, at[0], at[1], c)
			}
			if c.State == api.StateFull {
				answers(t, s, at[0], at[1], c.Inc, c.Ver, c.Data)
			} else {
				answersNot(t, s, at[0], at[1], api.ErrStoreState)
			}
		}
	}
}

func TestInstallOfWhatMayNotBe(t *testing.T) {
	bad := []api.Copy{{}, {State: api.StateFull}, {State: api.StateRecovering}, {Inc: 1}, {State: 3, Inc: 1}, {State: -1, Inc: 1}, {State: math.MinInt, Inc: 1}, {State: math.MaxInt, Inc: 1}, {State: api.StateFull + 1<<32, Inc: 1}, {State: api.StateRecovering - 1<<32, Inc: 1}}
	s := opened(t, 24, 1)
	was := api.Copy{State: api.StateFull, Inc: 1}
	for _, c := range append(bad, copies()...) {
		// That there is no such replica is told ahead of what the store has, and that ahead of the copy.
		for _, wrong := range wrongNumbers {
			fails(t, s.Install(wrong, 1, c), api.ErrArg)
			hasNone(t, s, wrong, 1)
		}
		for _, wrong := range wrongReplicas {
			fails(t, s.Install(24, wrong, c), api.ErrArg)
			fails(t, s.Install(wrong, wrong, c), api.ErrArg)
			hasNone(t, s, 24, wrong)
		}
		fails(t, s.Install(24, 1, c), api.ErrStoreState)
		holds(t, s, 24, 1, was)
	}
	for _, c := range bad {
		fails(t, s.Install(24, 2, c), api.ErrStoreForm)
		hasNone(t, s, 24, 2)
		fails(t, s.Install(lastBucket, 0, c), api.ErrStoreForm)
		hasNone(t, s, lastBucket, 0)
	}
	isOK(t, s.Open(24, 2, 4, false))
	fails(t, s.Install(24, 2, was), api.ErrStoreState)
	holds(t, s, 24, 2, api.Copy{State: api.StateRecovering, Inc: 4})
}

// To extract takes nothing away; the replica goes on beside what went elsewhere.
func TestExtractLeavesTheReplica(t *testing.T) {
	s := opened(t, 24, 1)
	votes(t, s, 1, reads(1, 24, 0), api.VotePrepared)
	other := installed(t, 24, 1, extracted(t, s, 24, 1))
	decides(t, s, 1, reads(1, 24, 0), true)
	votes(t, s, 1, writes(2, 24, 0, "v"), api.VotePrepared)
	votes(t, other, 1, writes(2, 24, 0, "v"), api.VoteAbort)
	votes(t, other, 1, reads(3, 24, 0), api.VotePrepared)
}

// A replica that was dropped may come back as it was.
func TestInstallBehindDrop(t *testing.T) {
	s := opened(t, 24, 1)
	l := writes(1, 24, 0, "v")
	votes(t, s, 1, l, api.VotePrepared)
	c := extracted(t, s, 24, 1)
	isOK(t, s.Drop(24, 1))
	hasNone(t, s, 24, 1)
	isOK(t, s.Install(24, 1, c))
	fails(t, s.Open(24, 1, 1, true), api.ErrStoreState)
	votes(t, s, 1, l, api.VotePrepared)
	decides(t, s, 1, l, true)
	answers(t, s, 24, 1, 1, 1, entriesOf(24, 1, "v"))
}

// Every replica may be installed.
func TestInstallOfAll(t *testing.T) {
	s := store.New()
	for bucket := range 64 {
		for replica := range 4 {
			isOK(t, s.Install(bucket, replica, full(uint32(bucket+1), uint32(replica))))
		}
	}
	for bucket := range 64 {
		for replica := range 4 {
			answers(t, s, bucket, replica, uint32(bucket+1), uint32(replica), nil)
		}
	}
}
