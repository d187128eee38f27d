package wire_test

import (
	"encoding/hex"
	"math"
	"math/rand/v2"
	"reflect"
	"strings"

	"tontine/api"
)

const (
	maxText  = 64
	maxKey   = 32
	maxValue = 64
	maxFrame = 65536
)

// full is a message with something in each part of each field, to take fields from: no two numbers in it are the same, as far as the bounds go.
func full() api.Msg {
	data := []api.Entry{{Key: "a", Value: "one"}, {Key: "b\x00\xff", Value: ""}}
	items := []api.Item{
		{Bucket: 1, Ver: 0x21222324, Write: true, Data: data, Incs: [4]uint32{0x25262728, 0x292a2b2c, 0x2d2e2f30, 0x31323334}},
		{Bucket: 2, Ver: 0x35363738, Incs: [4]uint32{0x393a3b3c, 0, 0x3d3e3f40, 0x41424344}},
		{Bucket: 3, Ver: 0x45464748, Write: true, Incs: [4]uint32{1, 2, 3, 0}},
	}
	held := api.Copy{
		State: api.StateRecovering, Inc: 0x51525354, Ver: 0x55565758, Data: data,
		Locks:  []api.Lock{{Tx: 0x5152535455565758, Managers: [3]int{40, 41, 42}, Item: items[0]}, {Tx: 2, Managers: [3]int{43, 44, 45}, Item: items[1]}},
		Fences: [4]uint32{0x61626364, 0x65666768, 0x696a6b6c, 0x6d6e6f70},
		Votes:  []api.Voted{{Tx: 0x7172737475767778, Vote: api.VotePrepared}, {Tx: 3, Vote: api.VoteAbort}, {Tx: 4, Vote: api.VoteNone}},
	}
	return api.Msg{
		From: 10, To: 11,
		Inst:     api.Inst{Tx: 0x0102030405060708, Bucket: 4, Replica: 1, Index: 0x090a0b0c},
		Ballot:   api.Ballot{Round: 0x0d0e0f10, Node: 12},
		Accepted: api.Accepted{Is: true, B: api.Ballot{Round: 0x11121314, Node: 13}, Value: "accepted"},
		Value:    "value",
		Tx:       api.Tx{ID: 0x1516171819202122, Client: 0x23242526, Managers: [3]int{14, 15, 16}, Items: items},
		ID:       0x8182838485868788,
		Index:    0x898a8b8c, Round: 0x8d8e8f90,
		Bucket: 5, Replica: 2, Of: 3,
		Inc:    0x91929394,
		Vote:   api.VoteAbort,
		Answer: api.Answer{Round: 0x95969798, Inc: 0x999a9b9c, Ver: 0x9d9e9fa0, Data: data},
		Copy:   held,
		Arc:    api.Arc{From: 17, Size: 18},
		Copies: []api.Copy{held, {State: api.StateFull}, {Inc: 1, Ver: 2}},
		Pos:    api.Pos{Hi: 0xa1a2a3a4a5a6a7a8, Lo: 0xa9aaabacadaeafb0},
		Hops:   19,
		Peers:  []api.Peer{{Node: 20, Pos: api.Pos{Hi: 0xb1b2b3b4b5b6b7b8, Lo: 0xb9babbbcbdbebfc0}}, {Node: 21}},
	}
}

// samples are a message of each kind in which each field has something, and one in which none has.
func samples() []api.Msg {
	var l []api.Msg
	for _, k := range kinds() {
		l = append(l, only(k, full()), api.Msg{Kind: k})
	}
	return l
}

// change is a message with a field of another value, for better or worse.
type change struct {
	field, what string
	set         func(*api.Msg)
}

func applied(m api.Msg, l ...change) api.Msg {
	for _, c := range l {
		c.set(&m)
	}
	return m
}

func entriesOf(n int) []api.Entry { return make([]api.Entry, n) }

// loaded is n entries as long as they may be.
func loaded(n int) []api.Entry {
	l := make([]api.Entry, n)
	for i := range l {
		l[i] = api.Entry{Key: strings.Repeat("k", maxKey), Value: strings.Repeat("\xff", maxValue)}
	}
	return l
}

func written(l []api.Entry) api.Item { return api.Item{Write: true, Data: l} }

// heavy is a copy as great as it may be.
func heavy() api.Copy {
	most := [4]uint32{math.MaxUint32, math.MaxUint32, math.MaxUint32, math.MaxUint32}
	c := api.Copy{State: api.StateFull, Inc: math.MaxUint32, Ver: math.MaxUint32, Data: loaded(8), Fences: most}
	for range 64 {
		i := api.Item{Bucket: 63, Ver: math.MaxUint32, Write: true, Data: loaded(8), Incs: most}
		c.Locks = append(c.Locks, api.Lock{Tx: math.MaxUint64, Managers: [3]int{255, 255, 255}, Item: i})
		c.Votes = append(c.Votes, api.Voted{Tx: math.MaxUint64, Vote: api.VoteAbort})
	}
	return c
}

func times[T any](n int, v T) []T {
	var l []T
	for range n {
		l = append(l, v)
	}
	return l
}

// values are settings of a field, or of a part of it, to each of some values.
func values[T any](field, what string, at func(*api.Msg) *T, l ...T) []change {
	var to []change
	for _, v := range l {
		to = append(to, change{field, what, func(m *api.Msg) { *at(m) = v }})
	}
	return to
}

// edges are fields at their bounds.
func edges() []change {
	l := []change{}
	add := func(c ...change) { l = append(l, c...) }
	add(values("from", "From", func(m *api.Msg) *int { return &m.From }, 0, 1, 12, 127, 128, 255)...)
	add(values("to", "To", func(m *api.Msg) *int { return &m.To }, 0, 12, 128, 255)...)
	add(values("hops", "Hops", func(m *api.Msg) *int { return &m.Hops }, 0, 8, 9, 255)...)
	add(values("bucket", "Bucket", func(m *api.Msg) *int { return &m.Bucket }, 0, 63)...)
	add(values("replica", "Replica", func(m *api.Msg) *int { return &m.Replica }, 0, 3)...)
	add(values("of", "Of", func(m *api.Msg) *int { return &m.Of }, 0, 3)...)
	add(values("vote", "Vote", func(m *api.Msg) *api.Vote { return &m.Vote }, 0, 1, 2)...)
	add(values("index", "Index", func(m *api.Msg) *uint32 { return &m.Index }, 0, 255, 256, 1<<24, math.MaxUint32)...)
	add(values("round", "Round", func(m *api.Msg) *uint32 { return &m.Round }, 0, 258, 1<<31, math.MaxUint32)...)
	add(values("inc", "Inc", func(m *api.Msg) *uint32 { return &m.Inc }, 0, math.MaxUint32)...)
	add(values("id", "ID", func(m *api.Msg) *uint64 { return &m.ID }, 0, 1, 1<<32, 1<<63, math.MaxUint64)...)
	for _, n := range []int{0, 1, 63, maxText} {
		add(change{"value", "Value", func(m *api.Msg) { m.Value = strings.Repeat("\x00", n) }})
		add(change{"accepted", "Value", func(m *api.Msg) { m.Accepted = api.Accepted{Is: true, Value: strings.Repeat("\xfe", n)} }})
	}
	add(values("accepted", "whole", func(m *api.Msg) *api.Accepted { return &m.Accepted }, api.Accepted{}, api.Accepted{Is: true, B: api.Ballot{Round: math.MaxUint32, Node: 255}})...)
	add(values("ballot", "whole", func(m *api.Msg) *api.Ballot { return &m.Ballot }, api.Ballot{}, api.Ballot{Round: math.MaxUint32, Node: 255})...)
	add(values("inst", "whole", func(m *api.Msg) *api.Inst { return &m.Inst }, api.Inst{}, api.Inst{Tx: math.MaxUint64, Bucket: 63, Replica: 3, Index: math.MaxUint32})...)
	add(values("arc", "whole", func(m *api.Msg) *api.Arc { return &m.Arc }, api.Arc{}, api.Arc{From: 63, Size: 64}, api.Arc{From: 63}, api.Arc{Size: 64})...)
	add(values("pos", "whole", func(m *api.Msg) *api.Pos { return &m.Pos }, api.Pos{}, api.Pos{Hi: math.MaxUint64, Lo: 1}, api.Pos{Hi: 1, Lo: math.MaxUint64})...)
	add(values("peers", "whole", func(m *api.Msg) *[]api.Peer { return &m.Peers }, nil, []api.Peer{}, make([]api.Peer, 1), times(12, api.Peer{Node: 255, Pos: api.Pos{Hi: 1, Lo: 2}}))...)
	add(values("answer", "whole", func(m *api.Msg) *api.Answer { return &m.Answer }, api.Answer{}, api.Answer{Round: math.MaxUint32, Inc: math.MaxUint32, Ver: math.MaxUint32, Data: loaded(8)}, api.Answer{Data: entriesOf(8)})...)
	add(txEdges()...)
	for _, c := range copyEdges() {
		add(change{"copy", "whole", func(m *api.Msg) { m.Copy = c }})
		add(change{"copies", "one of them", func(m *api.Msg) { m.Copies = []api.Copy{c} }})
		add(change{"copies", "some of them", func(m *api.Msg) { m.Copies = []api.Copy{{}, c, {Ver: 9}} }})
	}
	add(values("copies", "whole", func(m *api.Msg) *[]api.Copy { return &m.Copies }, nil, []api.Copy{}, make([]api.Copy, 1), make([]api.Copy, 64))...)
	return l
}

func txEdges() []change {
	most := [4]uint32{math.MaxUint32, math.MaxUint32, math.MaxUint32, math.MaxUint32}
	great := api.Item{Bucket: 63, Ver: math.MaxUint32, Write: true, Data: loaded(8), Incs: most}
	l := []api.Tx{
		{}, {ID: 1}, {ID: math.MaxUint64, Client: math.MaxInt32, Managers: [3]int{255, 255, 255}}, {Items: []api.Item{}},
		{Items: make([]api.Item, 8)}, {Items: times(8, great)}, {Items: []api.Item{written(nil)}}, {Items: []api.Item{{Data: []api.Entry{}}}},
		{Items: []api.Item{written(entriesOf(1))}}, {Items: []api.Item{{}, written(loaded(8)), {}}}, {Items: []api.Item{written(entriesOf(8))}},
	}
	return values("tx", "whole", func(m *api.Msg) *api.Tx { return &m.Tx }, l...)
}

func copyEdges() []api.Copy {
	return []api.Copy{
		{}, {State: api.StateFull}, {State: api.StateRecovering, Inc: math.MaxUint32, Ver: math.MaxUint32}, heavy(),
		{Data: []api.Entry{}, Locks: []api.Lock{}, Votes: []api.Voted{}}, {Data: entriesOf(8)}, {Data: loaded(1)},
		{Locks: make([]api.Lock, 1)}, {Locks: make([]api.Lock, 64)}, {Votes: make([]api.Voted, 1)}, {Votes: make([]api.Voted, 64)},
		{Fences: [4]uint32{0, 0, 0, math.MaxUint32}}, {Fences: [4]uint32{1, 0, 0, 0}},
	}
}

// outside are ints below and above a bound: each one beside it, and some that go round to what is within it in fewer bits.
func outside(most int) []int {
	return []int{-1, -255, math.MinInt, most + 1, most + 256, most + 1<<16, 1<<31 + 1, 1 << 32, 1<<32 + most, 1 << 56, math.MaxInt}
}

// wrongs are values of fields beyond their bounds.
func wrongs() []change {
	l := []change{}
	ints := func(field, what string, most int, at func(*api.Msg) *int) {
		l = append(l, values(field, what, at, outside(most)...)...)
	}
	is := func(field, what string, set func(*api.Msg)) { l = append(l, change{field, what, set}) }
	ints("from", "From", 255, func(m *api.Msg) *int { return &m.From })
	ints("to", "To", 255, func(m *api.Msg) *int { return &m.To })
	ints("hops", "Hops", 255, func(m *api.Msg) *int { return &m.Hops })
	ints("bucket", "Bucket", 63, func(m *api.Msg) *int { return &m.Bucket })
	ints("replica", "Replica", 3, func(m *api.Msg) *int { return &m.Replica })
	ints("of", "Of", 3, func(m *api.Msg) *int { return &m.Of })
	ints("inst", "Bucket", 63, func(m *api.Msg) *int { return &m.Inst.Bucket })
	ints("inst", "Replica", 3, func(m *api.Msg) *int { return &m.Inst.Replica })
	ints("arc", "From", 63, func(m *api.Msg) *int { return &m.Arc.From })
	ints("arc", "Size", 64, func(m *api.Msg) *int { return &m.Arc.Size })
	ints("tx", "Client", math.MaxInt32, func(m *api.Msg) *int { return &m.Tx.Client })
	for i := range 3 {
		ints("tx", "Managers", 255, func(m *api.Msg) *int { return &m.Tx.Managers[i] })
	}
	for _, v := range outside(2) {
		is("vote", "Vote", func(m *api.Msg) { m.Vote = api.Vote(v) })
	}
	for _, v := range outside(255) {
		is("peers", "Node", func(m *api.Msg) { m.Peers = []api.Peer{{}, {Node: v}} })
	}
	is("peers", "one more", func(m *api.Msg) { m.Peers = make([]api.Peer, 13) })
	is("peers", "many more", func(m *api.Msg) { m.Peers = make([]api.Peer, 256+12) })
	for _, n := range []int{maxText + 1, 128, 255, 256, 257, 70000} {
		s := strings.Repeat("v", n)
		is("value", "too long", func(m *api.Msg) { m.Value = s })
		is("accepted", "Value too long", func(m *api.Msg) { m.Accepted = api.Accepted{Is: true, Value: s} })
		is("accepted", "not, too long", func(m *api.Msg) { m.Accepted = api.Accepted{Value: s} })
	}
	is("accepted", "not, Value", func(m *api.Msg) { m.Accepted = api.Accepted{Value: "\x00"} })
	is("accepted", "not, Round", func(m *api.Msg) { m.Accepted = api.Accepted{B: api.Ballot{Round: 1}} })
	is("accepted", "not, Node", func(m *api.Msg) { m.Accepted = api.Accepted{B: api.Ballot{Node: 1}} })
	is("copies", "one more", func(m *api.Msg) { m.Copies = make([]api.Copy, 65) })
	is("copies", "many more", func(m *api.Msg) { m.Copies = make([]api.Copy, 256) })
	is("tx", "items, one more", func(m *api.Msg) { m.Tx.Items = make([]api.Item, 9) })
	is("tx", "items, many more", func(m *api.Msg) { m.Tx.Items = make([]api.Item, 257) })
	for _, d := range wrongEntries() {
		is("answer", "Data", func(m *api.Msg) { m.Answer.Data = d })
	}
	for _, i := range wrongItems() {
		is("tx", "an item", func(m *api.Msg) { m.Tx.Items = []api.Item{i} })
		is("tx", "the last item", func(m *api.Msg) { m.Tx.Items = append(make([]api.Item, 7), i) })
	}
	for _, c := range wrongCopies() {
		is("copy", "whole", func(m *api.Msg) { m.Copy = c })
		is("copies", "one of them", func(m *api.Msg) { m.Copies = []api.Copy{c} })
		is("copies", "the last of them", func(m *api.Msg) { m.Copies = append(make([]api.Copy, 63), c) })
	}
	return l
}

func wrongEntries() [][]api.Entry {
	l := [][]api.Entry{entriesOf(9), loaded(9), entriesOf(256), entriesOf(264)}
	for _, n := range []int{1, 32, 100, 223, 224, 256} {
		l = append(l, []api.Entry{{Key: strings.Repeat("k", maxKey+n)}})
		l = append(l, append(entriesOf(7), api.Entry{Key: "k", Value: strings.Repeat("v", maxValue+n)}))
	}
	return l
}

func wrongItems() []api.Item {
	l := []api.Item{{Data: entriesOf(1)}, {Data: loaded(8)}}
	for _, b := range outside(63) {
		l = append(l, api.Item{Bucket: b})
	}
	for _, d := range wrongEntries() {
		l = append(l, api.Item{Data: d}, written(d))
	}
	return l
}

func wrongCopies() []api.Copy {
	l := []api.Copy{{Locks: make([]api.Lock, 65)}, {Votes: make([]api.Voted, 65)}, {Locks: make([]api.Lock, 256)}, {Votes: make([]api.Voted, 256)}}
	for _, s := range outside(2) {
		l = append(l, api.Copy{State: api.State(s)}, api.Copy{Votes: []api.Voted{{}, {Vote: api.Vote(s)}}})
	}
	for _, n := range outside(255) {
		for i := range 3 {
			k := api.Lock{}
			k.Managers[i] = n
			l = append(l, api.Copy{Locks: []api.Lock{{}, k}})
		}
	}
	for _, d := range wrongEntries() {
		l = append(l, api.Copy{Data: d})
	}
	for _, i := range wrongItems() {
		l = append(l, api.Copy{Locks: append(make([]api.Lock, 63), api.Lock{Item: i})})
	}
	return l
}

// leaves are the least that a field can have beside nothing: each number in it 1, each bool true, each string and each list with one element.
func leaves() []change {
	var l []change
	for _, name := range ranks {
		var m api.Msg
		at := part(&m, name)
		for _, v := range leavesOf(at.Type()) {
			l = append(l, change{name, at.Type().String(), func(m *api.Msg) { part(m, name).Set(v) }})
		}
	}
	return l
}

func leavesOf(t reflect.Type) []reflect.Value {
	one := reflect.New(t).Elem()
	switch t.Kind() {
	case reflect.Int:
		one.SetInt(1)
	case reflect.Uint8, reflect.Uint32, reflect.Uint64:
		one.SetUint(1)
	case reflect.Bool:
		one.SetBool(true)
	case reflect.String:
		one.SetString("\x00")
	case reflect.Slice:
		one = reflect.MakeSlice(t, 1, 1)
	case reflect.Array:
		return inside(t, t.Len(), func(v reflect.Value, i int) reflect.Value { return v.Index(i) })
	case reflect.Struct:
		return inside(t, t.NumField(), func(v reflect.Value, i int) reflect.Value { return v.Field(i) })
	}
	return []reflect.Value{one}
}

func inside(t reflect.Type, n int, at func(reflect.Value, int) reflect.Value) []reflect.Value {
	var l []reflect.Value
	for i := range n {
		for _, leaf := range leavesOf(at(reflect.New(t).Elem(), i).Type()) {
			v := reflect.New(t).Elem()
			at(v, i).Set(leaf)
			l = append(l, v)
		}
	}
	return l
}

// chance makes messages without a pattern, the same ones for the same seed.
type chance struct{ *rand.Rand }

func newChance(seed uint64) chance { return chance{rand.New(rand.NewPCG(4, seed))} }

// count is one up to most, often at an end.
func (r chance) count(most int) int {
	switch r.IntN(4) {
	case 0:
		return 0
	case 1:
		return most
	}
	return r.IntN(most + 1)
}

func (r chance) text(most int) string {
	b := make([]byte, r.count(most))
	for i := range b {
		b[i] = byte(r.Uint32())
	}
	return string(b)
}

func (r chance) word() uint32 { return r.Uint32() >> r.IntN(33) }

func (r chance) long() uint64 { return r.Uint64() >> r.IntN(65) }

func (r chance) ballot() api.Ballot {
	return api.Ballot{Round: r.word(), Node: uint8(r.count(255))}
}

func (r chance) words() [4]uint32 { return [4]uint32{r.word(), r.word(), r.word(), r.word()} }

func (r chance) managers() [3]int { return [3]int{r.count(255), r.count(255), r.count(255)} }

func some[T any](n int, next func() T) []T {
	var l []T
	for range n {
		l = append(l, next())
	}
	return l
}

func (r chance) entries() []api.Entry {
	return some(r.count(8), func() api.Entry { return api.Entry{Key: r.text(maxKey), Value: r.text(maxValue)} })
}

func (r chance) item() api.Item {
	i := api.Item{Bucket: r.count(63), Ver: r.word(), Incs: r.words()}
	if r.IntN(2) == 0 {
		i.Write, i.Data = true, r.entries()
	}
	return i
}

func (r chance) lock() api.Lock {
	return api.Lock{Tx: r.long(), Managers: r.managers(), Item: r.item()}
}

func (r chance) voted() api.Voted { return api.Voted{Tx: r.long(), Vote: api.Vote(r.count(2))} }

// copy has few locks, since those of a whole move would seldom fit into a frame.
func (r chance) copy() api.Copy {
	return api.Copy{
		State: api.State(r.count(2)), Inc: r.word(), Ver: r.word(), Data: r.entries(),
		Locks: some(r.count(3), r.lock), Fences: r.words(), Votes: some(r.count(5), r.voted),
	}
}

func (r chance) pos() api.Pos { return api.Pos{Hi: r.long(), Lo: r.long()} }

func (r chance) peer() api.Peer { return api.Peer{Node: r.count(255), Pos: r.pos()} }

func (r chance) msg() api.Msg {
	m := api.Msg{
		From: r.count(255), To: r.count(255),
		Inst:   api.Inst{Tx: r.long(), Bucket: r.count(63), Replica: r.count(3), Index: r.word()},
		Ballot: r.ballot(), Value: r.text(maxText),
		Tx: api.Tx{ID: r.long(), Client: int(r.word() >> 1), Managers: r.managers(), Items: some(r.count(8), r.item)},
		ID: r.long(), Index: r.word(), Round: r.word(),
		Bucket: r.count(63), Replica: r.count(3), Of: r.count(3), Inc: r.word(), Vote: api.Vote(r.count(2)),
		Answer: api.Answer{Round: r.word(), Inc: r.word(), Ver: r.word(), Data: r.entries()},
		Copy:   r.copy(), Arc: api.Arc{From: r.count(63), Size: r.count(64)}, Copies: some(r.IntN(10), r.copy),
		Pos: r.pos(), Hops: r.count(255), Peers: some(r.count(12), r.peer),
	}
	if r.IntN(2) == 0 {
		m.Accepted = api.Accepted{Is: true, B: r.ballot(), Value: r.text(maxText)}
	}
	return only(api.MsgKind(1+r.IntN(lastKind)), m)
}

// raw is bytes as hexadecimal numbers.
func raw(s string) []byte {
	b, err := hex.DecodeString(strings.Join(strings.Fields(s), ""))
	if err != nil {
		panic(err)
	}
	return b
}
