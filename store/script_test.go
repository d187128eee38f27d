package store_test

import (
	"math/rand/v2"
	"strings"
	"testing"

	"tontine/api"
)

// chance is numbers that a script is made of: those of a seed, or the bytes of a fuzzer.
type chance interface{ IntN(n int) int }

// bytes are read as numbers; behind their end are zeros.
type bytes struct{ rest []byte }

func (b *bytes) IntN(n int) int {
	v := 0
	// Two bytes where one is not enough.
	for range (n + 255) / 256 {
		if len(b.rest) == 0 {
			return 0
		}
		v, b.rest = v<<8|int(b.rest[0]), b.rest[1:]
	}
	return v % n
}

// player makes calls of chance on a store and its model.
type player struct {
	*twins
	g chance
	// txs is how many transactions there are, and writing how many of ten of them write.
	txs, writing int
	// strange is whether copies are installed that no replica comes to.
	strange bool
}

func (p *player) bucket() int {
	if p.g.IntN(60) == 0 {
		return wrongNumbers[p.g.IntN(len(wrongNumbers))]
	}
	return []int{24, 24, 0, lastBucket}[p.g.IntN(4)]
}

func (p *player) replica() int {
	if p.g.IntN(60) == 0 {
		return wrongReplicas[p.g.IntN(len(wrongReplicas))]
	}
	return p.g.IntN(4)
}

func (p *player) inc() uint32 {
	if p.g.IntN(25) == 0 {
		return 0
	}
	return uint32(1 + p.g.IntN(3)*p.g.IntN(2))
}

func (p *player) tx() uint64 {
	if p.g.IntN(80) == 0 {
		return 0
	}
	return uint64(1 + p.g.IntN(p.txs))
}

// ver is most often a replica's own, or near it.
func (p *player) ver(bucket, replica int) uint32 {
	var v uint32
	if of := p.m.at(bucket, replica); of != nil {
		v = of.ver()
	}
	switch p.g.IntN(20) {
	case 0:
		return v - 1
	case 1:
		return v + 1
	case 2:
		return uint32(p.g.IntN(8))
	case 3:
		return []uint32{lastVer, lastVer + 1, greatest, 1 << 16}[p.g.IntN(4)]
	}
	return v
}

func (p *player) entries(bucket int) []api.Entry {
	l := entriesOf(bucket, p.g.IntN(4), string(rune('a'+p.g.IntN(26))))
	if p.g.IntN(30) > 0 {
		return l
	}
	switch p.g.IntN(5) {
	case 0:
		return entriesOf(bucket, 7+p.g.IntN(3), "m")
	case 1:
		return append(l, api.Entry{Key: keyOf(bucket, 0)})
	case 2:
		return append(l, api.Entry{Key: keyOf(bucket+1, 9)})
	case 3:
		return append(l, api.Entry{Key: keyOf(bucket, 9), Value: strings.Repeat("v", 64+p.g.IntN(2))})
	}
	return []api.Entry{{}}
}

// lock is most often one that the replica may take.
func (p *player) lock(replica int) api.Lock {
	bucket := p.bucket()
	l := api.Lock{Tx: p.tx(), Managers: [3]int{p.g.IntN(12), p.g.IntN(12), p.g.IntN(12)}}
	l.Item = api.Item{Bucket: bucket, Ver: p.ver(bucket, replica), Write: p.g.IntN(10) < p.writing}
	for of := range l.Item.Incs {
		l.Item.Incs[of] = p.inc()
		if other := p.m.at(bucket, of); other != nil && p.g.IntN(20) > 0 {
			l.Item.Incs[of] = other.start.Inc
		}
	}
	if l.Item.Write || p.g.IntN(40) == 0 {
		l.Item.Data = p.entries(bucket)
	}
	return l
}

// copied is a copy that a replica holds, or, if such are wanted, one of anything.
func (p *player) copied(bucket, replica int) api.Copy {
	if from := p.m.at(bucket, replica); from != nil && (!p.strange || p.g.IntN(3) > 0) {
		return from.copied()
	}
	if !p.strange || p.g.IntN(20) == 0 {
		return api.Copy{State: api.State(p.g.IntN(4)), Inc: p.inc()}
	}
	c := api.Copy{State: api.StateRecovering + api.State(p.g.IntN(2)), Inc: p.inc(), Ver: p.ver(bucket, replica), Data: p.entries(0)}
	for range p.g.IntN(4) {
		c.Locks = append(c.Locks, p.lock(p.replica()&3))
	}
	for of := range c.Fences {
		c.Fences[of] = p.inc() * uint32(p.g.IntN(2))
	}
	given := p.g.IntN(6)
	if p.g.IntN(4) == 0 {
		given = mostVotes - 4 + p.g.IntN(8)
	}
	for range given {
		c.Votes = append(c.Votes, api.Voted{Tx: p.tx(), Vote: api.Vote(p.g.IntN(5) - 1)})
	}
	return c
}

// step makes a call.
func (p *player) step() {
	bucket, replica := p.bucket(), p.replica()
	switch n := p.g.IntN(100); {
	case n < 45:
		p.vote(replica, p.lock(replica))
	case n < 70:
		l := p.lock(replica)
		if of := p.m.at(bucket, replica); of != nil && p.g.IntN(3) > 0 {
			if held := of.locks(); len(held) > 0 {
				l = held[p.g.IntN(len(held))]
			}
		}
		p.decide(replica, l, p.g.IntN(4) > 0)
	case n < 78:
		of, inc := p.replica(), p.inc()
		p.fence(bucket, replica, of, inc)
	case n < 84:
		p.open(bucket, replica, p.inc(), p.g.IntN(3) > 0)
	case n < 87:
		p.drop(bucket, replica)
	case n < 93:
		p.recovers(bucket, replica)
	case n < 97:
		p.install(bucket, replica, p.copied(bucket, p.replica()))
	case n < 98:
		p.takesAway(bucket, replica)
	default:
		p.moves()
	}
}

// recovers recovers a replica from what the others hold.
func (p *player) recovers(bucket, replica int) {
	var l [4]api.Copy
	for of := range l {
		l[of] = p.copied(bucket, of)
		if p.g.IntN(8) > 0 {
			l[of].State = api.StateFull
		}
		if l[of].Inc == 0 && p.g.IntN(8) > 0 {
			l[of].Inc = 1
		}
	}
	p.recover(bucket, replica, l)
}

// takesAway drops a replica and opens it anew, as one that recovers.
func (p *player) takesAway(bucket, replica int) {
	p.drop(bucket, replica)
	p.open(bucket, replica, p.inc(), false)
	p.recovers(bucket, replica)
}

// played is a player that has all replicas of a bucket, and has made so many calls.
func played(t *testing.T, g chance, txs, writing int, strange bool, steps int) *player {
	t.Helper()
	p := &player{twins: twinsOf(t), g: g, txs: txs, writing: writing, strange: strange}
	for replica := range 4 {
		p.open(24, replica, 1, true)
	}
	for range steps {
		p.step()
	}
	p.looksAtAll()
	return p
}

func TestScripts(t *testing.T) {
	count, voted := map[string]map[api.Errno]int{}, map[api.Vote]int{}
	for seed := range uint64(200) {
		p := played(t, rand.New(rand.NewPCG(15, seed)), []int{6, 20, 90, 400}[seed%4], []int{0, 1, 5, 10}[seed/4%4], seed%3 == 0, 250+int(seed%7)*60)
		for call, l := range p.count {
			if count[call] == nil {
				count[call] = map[api.Errno]int{}
			}
			for e, n := range l {
				count[call][e] += n
			}
		}
		for v, n := range p.voted {
			voted[v] += n
		}
	}
	for call, l := range map[string][]api.Errno{
		"Open":    {api.OK, api.ErrArg, api.ErrStoreState},
		"Drop":    {api.OK, api.ErrStoreNone},
		"Vote":    {api.OK, api.ErrStoreForm, api.ErrStoreNone, api.ErrStoreState, api.ErrStoreInc, api.ErrStoreFull},
		"Decide":  {api.OK, api.ErrStoreForm, api.ErrStoreNone, api.ErrStoreState},
		"Fence":   {api.OK, api.ErrArg, api.ErrStoreNone, api.ErrStoreState, api.ErrStoreInc},
		"Recover": {api.OK, api.ErrStoreNone, api.ErrStoreState, api.ErrStoreForm},
		"Install": {api.OK, api.ErrArg, api.ErrStoreState, api.ErrStoreForm},
	} {
		for _, e := range l {
			if count[call][e] < 20 {
				t.Errorf("%s told %d so often: %d", call, e, count[call][e])
			}
		}
	}
	if voted[api.VotePrepared] < 1000 || voted[api.VoteAbort] < 1000 {
		t.Errorf("%v", voted)
	}
}

// Replicas of one bucket alone, and nothing but votes and decisions, till the votes are full.
func TestScriptsOfOneReplica(t *testing.T) {
	full := 0
	for seed := range uint64(60) {
		g := rand.New(rand.NewPCG(16, seed))
		p := &player{twins: twinsOf(t), g: g, txs: 100, writing: int(seed % 5)}
		p.open(24, 2, 1, true)
		for range 300 {
			l := with(reads(p.tx(), 24, p.ver(24, 2)), 1, 1, 1, 0)
			if l.Item.Write = g.IntN(20) < p.writing; l.Item.Write {
				l.Item.Data = entriesOf(24, g.IntN(9), "v")
			}
			if g.IntN(3) > 0 {
				p.vote(2, l)
			} else {
				p.decide(2, l, g.IntN(2) > 0)
			}
		}
		full += p.count["Vote"][api.ErrStoreFull]
	}
	if full < 500 {
		t.Errorf("the votes were full so often: %d", full)
	}
}

// Stores between which replicas go all the time answer as one that keeps them (P15.4).
func TestScriptsOfMoves(t *testing.T) {
	for seed := range uint64(30) {
		p := played(t, rand.New(rand.NewPCG(17, seed)), 30, 3, seed%2 == 0, 0)
		for range 200 {
			p.step()
			p.moves()
		}
		p.looksAtAll()
	}
}

func FuzzStore(f *testing.F) {
	f.Add(uint8(20), uint8(5), true, []byte{0, 1, 24, 3, 40, 50, 200, 7, 90, 3, 1, 1, 1, 0, 99, 2, 60, 70, 80, 85, 88, 95, 97})
	f.Add(uint8(3), uint8(0), false, []byte{9, 24, 2, 0, 99, 1, 1, 1, 1, 30, 0, 7, 12, 46, 3, 3, 91, 8, 8})
	f.Fuzz(func(t *testing.T, txs, writing uint8, strange bool, script []byte) {
		b := &bytes{script}
		p := played(t, b, 1+int(txs), int(writing)%11, strange, 0)
		for len(b.rest) > 0 {
			p.step()
		}
		p.looksAtAll()
	})
}

// FuzzLocks takes any lock and any copy.
func FuzzLocks(f *testing.F) {
	f.Add(uint64(7), 24, uint32(0), true, "a", "v", "b", "w", uint32(1), uint32(1), uint32(1), uint32(0), 0)
	f.Add(uint64(0), -1, uint32(greatest), false, "", "", "", "", uint32(0), uint32(0), uint32(9), uint32(greatest), 4)
	f.Fuzz(func(t *testing.T, tx uint64, bucket int, ver uint32, write bool, k1, v1, k2, v2 string, i0, i1, i2, i3 uint32, replica int) {
		l := api.Lock{Tx: tx, Item: api.Item{Bucket: bucket, Ver: ver, Write: write, Incs: [4]uint32{i0, i1, i2, i3}}}
		for _, data := range [][]api.Entry{nil, {{Key: k1, Value: v1}}, {{Key: k1, Value: v1}, {Key: k2, Value: v2}}} {
			l.Item.Data = data
			w := twinsOf(t)
			w.open(bucket, replica, i0, true)
			w.install(bucket, replica, api.Copy{State: api.StateFull, Inc: i1, Ver: i2, Data: data, Locks: []api.Lock{l}})
			w.vote(replica, l)
			w.decide(replica, l, write)
			w.vote(replica, l)
			w.fence(bucket, replica, int(i3%6)-1, i2)
			w.looks(bucket, replica)
		}
	})
}
