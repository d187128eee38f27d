package net_test

import (
	"bytes"
	"math"
	"slices"
	"testing"

	"tontine/api"
	"tontine/net"
)

// Numbers of the chapter, written a second time.
const (
	mostPackets = 4096
	mostBytes   = 65546
)

// model is the chapter's words a second time: packets one behind the other, as they were made.
type model struct {
	room int
	next uint64
	list []api.Packet
	told api.Traffic
}

func modelOf(room int) *model { return &model{room: room, next: 1} }

// index is where a packet stands in the list, or -1.
func (m *model) index(id uint64) int {
	for i, p := range m.list {
		if p.ID == id {
			return i
		}
	}
	return -1
}

func (m *model) add(from, to int, data []byte) uint64 {
	id := m.next
	m.next++
	own := make([]byte, len(data))
	copy(own, data)
	m.list = append(m.list, api.Packet{ID: id, From: from, To: to, Data: own})
	return id
}

func (m *model) remove(i int) api.Packet {
	p := m.list[i]
	m.list = slices.Delete(m.list, i, i+1)
	return p
}

func (m *model) send(from, to int, data []byte) (uint64, api.Errno) {
	if len(data) > mostBytes {
		return 0, api.ErrNetLong
	}
	if len(m.list) == m.room {
		return 0, api.ErrNetFull
	}
	m.told.Sent++
	return m.add(from, to, data), api.OK
}

func (m *model) twice(id uint64) (uint64, api.Errno) {
	i := m.index(id)
	if i < 0 {
		return 0, api.ErrNetNone
	}
	if len(m.list) == m.room {
		return 0, api.ErrNetFull
	}
	m.told.Twice++
	return m.add(m.list[i].From, m.list[i].To, m.list[i].Data), api.OK
}

func (m *model) take(id uint64) (api.Packet, api.Errno) {
	i := m.index(id)
	if i < 0 {
		return api.Packet{}, api.ErrNetNone
	}
	m.told.Taken++
	return m.remove(i), api.OK
}

func (m *model) look(id uint64) (api.Packet, api.Errno) {
	i := m.index(id)
	if i < 0 {
		return api.Packet{}, api.ErrNetNone
	}
	return m.list[i], api.OK
}

func (m *model) lose(id uint64) api.Errno {
	i := m.index(id)
	if i < 0 {
		return api.ErrNetNone
	}
	m.told.Lost++
	m.remove(i)
	return api.OK
}

func (m *model) spoil(id uint64, at int, by byte) api.Errno {
	i := m.index(id)
	if i < 0 {
		return api.ErrNetNone
	}
	if at < 0 || at > len(m.list[i].Data)-1 {
		return api.ErrArg
	}
	m.told.Spoilt++
	m.list[i].Data[at] = m.list[i].Data[at] ^ by
	return api.OK
}

func (m *model) forget(node int) int {
	lost := 0
	for i := len(m.list) - 1; i >= 0; i-- {
		if m.list[i].To == node {
			m.remove(i)
			lost++
		}
	}
	m.told.Lost += lost
	return lost
}

func (m *model) numbers() []uint64 {
	var ids []uint64
	for _, p := range m.list {
		ids = append(ids, p.ID)
	}
	return ids
}

// pair is a net and its model, which get the same calls and must answer the same.
type pair struct {
	t *testing.T
	n *net.Net
	m *model
}

func pairOf(t *testing.T, room int) *pair {
	t.Helper()
	return &pair{t, made(t, room), modelOf(room)}
}

func (p *pair) same(call string, got, want any) {
	p.t.Helper()
	if got != want {
		p.t.Fatalf("%s: %v, want %v", call, got, want)
	}
}

func (p *pair) samePacket(call string, got, want api.Packet) {
	p.t.Helper()
	if got.ID != want.ID || got.From != want.From || got.To != want.To || !bytes.Equal(got.Data, want.Data) {
		p.t.Fatalf("%s: %d from %d to %d with %s, want %d from %d to %d with %s", call, got.ID, got.From, got.To, short(got.Data), want.ID, want.From, want.To, short(want.Data))
	}
}

// looks asks for all that can be asked without a change.
func (p *pair) looks() {
	p.t.Helper()
	p.same("Count", p.n.Count(), len(p.m.list))
	p.same("Told", p.n.Told(), p.m.told)
	got, want := p.n.List(), p.m.numbers()
	if !slices.Equal(got, want) {
		p.t.Fatalf("List: %v, want %v", got, want)
	}
	if !slices.IsSorted(got) {
		p.t.Fatalf("List: %v", got)
	}
	numbers(got)
	told := p.n.Told()
	p.same("Sent + Twice", told.Sent+told.Twice, told.Taken+told.Lost+p.n.Count())
	for _, q := range p.m.list {
		p.look(q.ID)
	}
	p.look(0)
	p.look(p.m.next)
	p.look(math.MaxUint64)
}

func (p *pair) send(from, to int, data []byte) uint64 {
	p.t.Helper()
	// The bytes are handed in with others behind them, which are none of the net's business.
	lent := append(bytes.Clone(data), "behind"...)
	got, e := p.n.Send(from, to, lent[:len(data)])
	want, wantE := p.m.send(from, to, data)
	p.same("Send", got, want)
	p.same("the error of Send", e, wantE)
	if !bytes.Equal(lent[:len(data)], data) || string(lent[len(data):]) != "behind" {
		p.t.Fatalf("Send changes %s to %s", short(data), short(lent))
	}
	scribble(lent)
	return got
}

func (p *pair) twice(id uint64) uint64 {
	p.t.Helper()
	got, e := p.n.Twice(id)
	want, wantE := p.m.twice(id)
	p.same("Twice", got, want)
	p.same("the error of Twice", e, wantE)
	return got
}

func (p *pair) take(id uint64) {
	p.t.Helper()
	got, e := p.n.Take(id)
	want, wantE := p.m.take(id)
	p.samePacket("Take", got, want)
	p.same("the error of Take", e, wantE)
	scribble(got.Data)
}

func (p *pair) look(id uint64) {
	p.t.Helper()
	got, e := p.n.Look(id)
	want, wantE := p.m.look(id)
	p.samePacket("Look", got, want)
	p.same("the error of Look", e, wantE)
	scribble(got.Data)
}

func (p *pair) lose(id uint64) {
	p.t.Helper()
	p.same("Lose", p.n.Lose(id), p.m.lose(id))
}

func (p *pair) spoil(id uint64, at int, by byte) {
	p.t.Helper()
	p.same("Spoil", p.n.Spoil(id, at, by), p.m.spoil(id, at, by))
}

func (p *pair) forget(node int) {
	p.t.Helper()
	p.same("Forget", p.n.Forget(node), p.m.forget(node))
}

// made is a net that must be there.
func made(t *testing.T, room int) *net.Net {
	t.Helper()
	n, e := net.New(room)
	if n == nil || e != api.OK {
		t.Fatalf("New(%d): %v, %d", room, n, e)
	}
	return n
}

// scribble is what a caller may do to bytes that it handed in or was answered: a net doesn't see it.
func scribble(b []byte) {
	b = b[:cap(b)]
	for i := range b {
		b[i] ^= 0xa5
	}
}

func numbers(l []uint64) {
	l = l[:cap(l)]
	for i := range l {
		l[i] = 1 << 60
	}
}

// short is bytes as a test tells them.
func short(b []byte) string {
	const digits = "0123456789abcdef"
	var s []byte
	for i, c := range b {
		if i == 20 {
			return string(s) + " .."
		}
		s = append(s, ' ', digits[c>>4], digits[c&15])
	}
	return string(s)
}

// bytesOf is n bytes, which differ from their neighbours and with the kind.
func bytesOf(n int, kind byte) []byte {
	b := make([]byte, n)
	for i := range b {
		b[i] = kind + byte(i) + byte(i>>8)*7
	}
	return b
}
