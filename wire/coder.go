package wire

import (
	"math"

	"tontine/api"
)

const (
	octetBytes = 1
	wordBytes  = 4
	longBytes  = 8
)

// coder goes through values one by one: a writer appends each to its bytes, a reader sets each to what it takes off them. So an encoding is worded once, for both ways. A writer changes no value, for those behind a slice are the caller's.
type coder struct {
	reading bool
	bytes   []byte
	field   string // whose values they are
}

// need gives up unless a value is as it has to be.
func (c *coder) need(is bool) {
	if is {
		return
	}
	if c.reading {
		giveUp(api.ErrWireForm, c.field)
	}
	giveUp(api.ErrWireField, c.field)
}

// take is the next n bytes.
func (c *coder) take(n int) []byte {
	c.need(n <= len(c.bytes))
	b := c.bytes[:n]
	c.bytes = c.bytes[n:]
	return b
}

func (c *coder) takeNumber(size int) uint64 {
	var v uint64
	for i, x := range c.take(size) {
		v |= uint64(x) << (8 * i)
	}
	return v
}

func (c *coder) appendNumber(v uint64, size int) {
	for i := range size {
		c.bytes = append(c.bytes, byte(v>>(8*i)))
	}
}

// integer is what numbers are kept in.
type integer interface {
	~int | ~uint8 | ~uint32 | ~uint64
}

// number is one from 0 to most, in so many bytes, the lowest one first.
func number[T integer](c *coder, p *T, size int, most uint64) {
	if c.reading {
		v := c.takeNumber(size)
		c.need(v <= most)
		*p = T(v)
		return
	}
	// A negative number goes round to one that is above each bound.
	v := uint64(*p)
	c.need(v <= most)
	c.appendNumber(v, size)
}

// list is how many elements there are, and each of them.
func list[T any](c *coder, p *[]T, most uint64, each func(*coder, *T)) {
	n := len(*p)
	number(c, &n, octetBytes, most)
	if c.reading && n > 0 {
		*p = make([]T, n)
	}
	for i := range n {
		each(c, &(*p)[i])
	}
}

func text(c *coder, p *string, most uint64) {
	n := len(*p)
	number(c, &n, octetBytes, most)
	if c.reading {
		*p = string(c.take(n))
	} else {
		c.bytes = append(c.bytes, *p...)
	}
}

func flag(c *coder, p *bool) {
	n := 0
	if *p {
		n = 1
	}
	number(c, &n, octetBytes, 1)
	if c.reading {
		*p = n == 1
	}
}

// octet is a number for which a byte is the only bound: nodes among them, though there are no more than 12.
func octet[T integer](c *coder, p *T) { number(c, p, octetBytes, math.MaxUint8) }

func word(c *coder, p *uint32) { number(c, p, wordBytes, math.MaxUint32) }

func long(c *coder, p *uint64) { number(c, p, longBytes, math.MaxUint64) }

func bucket(c *coder, p *int) { number(c, p, octetBytes, api.Buckets-1) }

func replica(c *coder, p *int) { number(c, p, octetBytes, api.Replicas-1) }

func vote(c *coder, p *api.Vote) { number(c, p, octetBytes, uint64(api.VoteAbort)) }

func inst(c *coder, i *api.Inst) {
	long(c, &i.Tx)
	bucket(c, &i.Bucket)
	replica(c, &i.Replica)
	word(c, &i.Index)
}

func ballot(c *coder, b *api.Ballot) {
	word(c, &b.Round)
	octet(c, &b.Node)
}

func accepted(c *coder, a *api.Accepted) {
	flag(c, &a.Is)
	if !a.Is {
		c.need(*a == api.Accepted{})
		return
	}
	ballot(c, &a.B)
	text(c, &a.Value, api.MaxText)
}

func entries(c *coder, l *[]api.Entry) { list(c, l, api.MaxBucket, entry) }

func entry(c *coder, e *api.Entry) {
	text(c, &e.Key, api.MaxKey)
	text(c, &e.Value, api.MaxValue)
}

func item(c *coder, i *api.Item) {
	bucket(c, &i.Bucket)
	word(c, &i.Ver)
	flag(c, &i.Write)
	perReplica(c, &i.Incs)
	if i.Write {
		entries(c, &i.Data)
	} else {
		c.need(len(i.Data) == 0)
	}
}

// perReplica is a number for each replica of a bucket.
func perReplica(c *coder, l *[api.Replicas]uint32) {
	for i := range l {
		word(c, &l[i])
	}
}

func managers(c *coder, l *[3]int) {
	for i := range l {
		octet(c, &l[i])
	}
}

func tx(c *coder, t *api.Tx) {
	long(c, &t.ID)
	number(c, &t.Client, wordBytes, api.MaxCount)
	managers(c, &t.Managers)
	list(c, &t.Items, api.MaxItems, item)
}

func answer(c *coder, a *api.Answer) {
	word(c, &a.Round)
	word(c, &a.Inc)
	word(c, &a.Ver)
	entries(c, &a.Data)
}

func lock(c *coder, l *api.Lock) {
	long(c, &l.Tx)
	managers(c, &l.Managers)
	item(c, &l.Item)
}

func voted(c *coder, v *api.Voted) {
	long(c, &v.Tx)
	vote(c, &v.Vote)
}

func replicaCopy(c *coder, p *api.Copy) {
	number(c, &p.State, octetBytes, uint64(api.StateFull))
	word(c, &p.Inc)
	word(c, &p.Ver)
	entries(c, &p.Data)
	list(c, &p.Locks, api.MaxLocks, lock)
	perReplica(c, &p.Fences)
	list(c, &p.Votes, api.MaxVoted, voted)
}

func arc(c *coder, a *api.Arc) {
	// The ring has as many places as there are buckets.
	number(c, &a.From, octetBytes, api.Buckets-1)
	number(c, &a.Size, octetBytes, api.Buckets)
}

func pos(c *coder, p *api.Pos) {
	long(c, &p.Hi)
	long(c, &p.Lo)
}

func peer(c *coder, p *api.Peer) {
	octet(c, &p.Node)
	pos(c, &p.Pos)
}

func decree(c *coder, d *api.Decree) {
	number(c, &d.Kind, octetBytes, uint64(api.DecreeLeave))
	octet(c, &d.Node)
	octet(c, &d.By)
	arc(c, &d.Arc)
	word(c, &d.Count)
	word(c, &d.Seen)
}
