package wire_test

import (
	"bytes"
	"errors"
	"math"
	"reflect"
	"strings"
	"testing"

	"tontine/api"
	"tontine/wire"
)

// The calls, as the chapter lists them.
var (
	_ func(api.Msg) ([]byte, error)        = wire.Encode
	_ func([]byte) (api.Msg, error)        = wire.Decode
	_ func(api.Decree) (string, api.Errno) = wire.EncodeDecree
	_ func(string) (api.Decree, api.Errno) = wire.DecodeDecree
)

// isFault tells whether an error is the fault with this number and this name, to all who ask.
func isFault(err error, want api.Errno, of string) bool {
	var f *api.Fault
	if !errors.As(err, &f) || f == nil || f.Err != want || f.Of != of {
		return false
	}
	direct, is := err.(*api.Fault)
	return is && direct == f && errors.Is(err, want) && !errors.Is(err, want+1) && !errors.Is(err, api.OK)
}

// encodes holds what Encode answers against the body that it should be of.
func encodes(t *testing.T, m api.Msg, body []byte) {
	t.Helper()
	b, err := wire.Encode(m)
	if err != nil {
		t.Errorf("kind %d: %v", m.Kind, err)
	} else if !bytes.Equal(b, framed(body)) {
		t.Errorf("kind %d: % x, want % x", m.Kind, b, framed(body))
	}
}

func refuses(t *testing.T, what string, m api.Msg, want api.Errno, of string) {
	t.Helper()
	b, err := wire.Encode(m)
	if len(b) > 0 || !isFault(err, want, of) {
		t.Errorf("kind %d, %s: %d bytes, %v, want %s: %d", m.Kind, what, len(b), err, of, want)
	}
}

func TestEncodeExamples(t *testing.T) {
	refuses(t, "nothing", api.Msg{}, api.ErrWireKind, "kind")
	refuses(t, "Round", api.Msg{Kind: api.MsgBeat, Round: 1}, api.ErrWireField, "round")
	refuses(t, "Bucket", api.Msg{Kind: api.MsgRead, Bucket: 64}, api.ErrWireField, "bucket")
	encodes(t, api.Msg{Kind: api.MsgBeat, From: 1, To: 2}, raw("10 01 02"))
	encodes(t, api.Msg{Kind: api.MsgRead, From: 0, To: 3, Bucket: 5, Replica: 1, Round: 258}, raw("07 00 03 05 01 02 01 00 00"))
}

// bodies are those of the full message's samples, by hand.
var bodies = map[api.MsgKind]string{
	api.MsgPrepare:     "01 0a 0b" + instHex + ballotHex,
	api.MsgPromise:     "02 0a 0b" + instHex + ballotHex + "01 14131211 0d 08 6163636570746564",
	api.MsgNack:        "03 0a 0b" + instHex + ballotHex,
	api.MsgAccept:      "04 0a 0b" + instHex + ballotHex + valueHex + txHex,
	api.MsgAccepted:    "05 0a 0b" + instHex + ballotHex + valueHex + txHex,
	api.MsgLearn:       "06 0a 0b 8c8b8a89" + valueHex,
	api.MsgRead:        "07 0a 0b 05 02 908f8e8d",
	api.MsgAnswer:      "08 0a 0b 05 02 98979695 9c9b9a99 a09f9e9d" + dataHex,
	api.MsgVote:        "09 0a 0b" + txHex + "05 02",
	api.MsgDecision:    "0a 0a 0b" + txHex + "02",
	api.MsgAskDecision: "0b 0a 0b 8887868584838281",
	api.MsgFence:       "0c 0a 0b 05 02 03 94939291",
	api.MsgFenced:      "0d 0a 0b 05 02 03 94939291" + copyHex,
	api.MsgMove:        "0e 0a 0b 908f8e8d 11 12 03" + copyHex + fullCopyHex + noneCopyHex,
	api.MsgMoved:       "0f 0a 0b 908f8e8d 11 12",
	api.MsgBeat:        "10 0a 0b",
	api.MsgRingAsk:     "11 0a 0b",
	api.MsgRingTell:    "12 0a 0b" + peersHex,
	api.MsgRingNotify:  "13 0a 0b" + peersHex,
	api.MsgRingLeave:   "14 0a 0b" + peersHex,
	api.MsgLook:        "15 0a 0b" + posHex + "8887868584838281 13",
	api.MsgFound:       "16 0a 0b" + posHex + "8887868584838281 13" + peersHex,
	api.MsgAskLearn:    "17 0a 0b 8c8b8a89",
}

const (
	instHex      = "0807060504030201 04 01 0c0b0a09"
	ballotHex    = "100f0e0d 0c"
	valueHex     = "05 76616c7565"
	dataHex      = "02 01 61 03 6f6e65 03 6200ff 00"
	firstItemHex = "01 24232221 01 28272625 2c2b2a29 302f2e2d 34333231" + dataHex
	nextItemHex  = "02 38373635 00 3c3b3a39 00000000 403f3e3d 44434241"
	txHex        = "2221201918171615 26252423 0e 0f 10 03" + firstItemHex + nextItemHex +
		"03 48474645 01 01000000 02000000 03000000 00000000 00"
	copyHex = "01 54535251 58575655" + dataHex +
		"02 5857565554535251 28 29 2a" + firstItemHex + "0200000000000000 2b 2c 2d" + nextItemHex +
		"64636261 68676665 6c6b6a69 706f6e6d" +
		"03 7877767574737271 01 0300000000000000 02 0400000000000000 00"
	fullCopyHex = "02 00000000 00000000 00 00 00000000 00000000 00000000 00000000 00"
	noneCopyHex = "00 01000000 02000000 00 00 00000000 00000000 00000000 00000000 00"
	posHex      = "a8a7a6a5a4a3a2a1 b0afaeadacabaaa9"
	peersHex    = "02 14 b8b7b6b5b4b3b2b1 c0bfbebdbcbbbab9 15 0000000000000000 0000000000000000"
)

func TestEachKindByHand(t *testing.T) {
	for _, k := range kinds() {
		m, body := only(k, full()), raw(bodies[k])
		encodes(t, m, body)
		decodes(t, framed(body), m)
		if !bytes.Equal(bodyOf(m), body) {
			t.Errorf("kind %d: the model has % x", k, bodyOf(m))
		}
	}
	if len(bodies) != lastKind {
		t.Errorf("%d kinds", len(bodies))
	}
}

func TestEncodeSamples(t *testing.T) {
	for _, m := range samples() {
		encodes(t, m, bodyOf(m))
	}
}

func TestEncodeKind(t *testing.T) {
	for _, k := range []int{0, 24, 25, -1, -23, 255, 256, 257, 256 + 23, 1 << 32, 1<<32 + 1, math.MaxInt, math.MinInt, math.MinInt + 1} {
		m := full()
		m.Kind = api.MsgKind(k)
		refuses(t, "everything", m, api.ErrWireKind, "kind")
		refuses(t, "nothing", api.Msg{Kind: m.Kind}, api.ErrWireKind, "kind")
		refuses(t, "wrong fields", applied(m, wrongs()...), api.ErrWireKind, "kind")
	}
}

// uses tells whether a kind uses a field.
func uses(k api.MsgKind, field string) bool {
	for _, name := range layout(k) {
		if name == field {
			return true
		}
	}
	return false
}

func isZero(m api.Msg, field string) bool {
	return tidy(part(&m, field)).IsZero()
}

// holdsEdge holds a message of any kind, a field of which is at a bound, against the chapter.
func holdsEdge(t *testing.T, m api.Msg, c change) {
	t.Helper()
	c.set(&m)
	if !uses(m.Kind, c.field) && !isZero(m, c.field) {
		refuses(t, c.field+" that is not used: "+c.what, m, api.ErrWireField, c.field)
		return
	}
	encodes(t, m, bodyOf(m))
	decodes(t, framed(bodyOf(m)), m)
}

func TestFieldsAtTheirBounds(t *testing.T) {
	for _, c := range edges() {
		for _, k := range kinds() {
			holdsEdge(t, api.Msg{Kind: k}, c)
			holdsEdge(t, only(k, full()), c)
		}
	}
}

func TestFieldsBeyondTheirBounds(t *testing.T) {
	for _, c := range wrongs() {
		for _, k := range kinds() {
			refuses(t, c.field+": "+c.what, applied(api.Msg{Kind: k}, c), api.ErrWireField, c.field)
			refuses(t, c.field+": "+c.what, applied(only(k, full()), c), api.ErrWireField, c.field)
		}
	}
}

func TestEachBoundIsTried(t *testing.T) {
	tried := map[string]int{}
	for _, c := range append(edges(), wrongs()...) {
		tried[c.field]++
	}
	for _, name := range ranks {
		if tried[name] == 0 {
			t.Errorf("no edge of %s", name)
		}
	}
}

func TestFieldsThatAreNotUsed(t *testing.T) {
	for _, k := range kinds() {
		for _, name := range ranks {
			if uses(k, name) {
				continue
			}
			refuses(t, name, with(only(k, full()), name, full()), api.ErrWireField, name)
			refuses(t, name, with(api.Msg{Kind: k}, name, full()), api.ErrWireField, name)
		}
		for _, c := range leaves() {
			if !uses(k, c.field) {
				refuses(t, c.field+": "+c.what, applied(only(k, full()), c), api.ErrWireField, c.field)
			}
		}
	}
}

// What has no elements is zero, be it nil or not.
func TestEmptyListsOfFieldsThatAreNotUsed(t *testing.T) {
	empty := api.Msg{
		Tx:     api.Tx{Items: []api.Item{}},
		Answer: api.Answer{Data: []api.Entry{}},
		Copy:   api.Copy{Data: []api.Entry{}, Locks: []api.Lock{}, Votes: []api.Voted{}},
		Copies: []api.Copy{},
		Peers:  []api.Peer{},
	}
	spare := api.Msg{
		Tx:     api.Tx{Items: make([]api.Item, 0, 9)},
		Answer: api.Answer{Data: loaded(9)[:0]},
		Copy:   api.Copy{Data: loaded(9)[:0], Locks: make([]api.Lock, 65)[:0], Votes: make([]api.Voted, 65)[:0]},
		Copies: []api.Copy{heavy()}[:0],
		Peers:  []api.Peer{{Node: -1}}[:0],
	}
	for _, k := range kinds() {
		empty.Kind, spare.Kind = k, k
		encodes(t, empty, bodyOf(api.Msg{Kind: k}))
		encodes(t, spare, bodyOf(api.Msg{Kind: k}))
	}
}

// firstWrong is a change for the worse of each field.
func firstWrong() map[string]change {
	first := map[string]change{}
	more := append(wrongs(), leaves()...)
	for i := range more {
		c := more[len(more)-1-i]
		first[c.field] = c
	}
	return first
}

// Of several faults, the one is told that comes first in the order of Msg, whichever order the encoding has.
func TestFirstOfSeveralFaults(t *testing.T) {
	worse, bounded := firstWrong(), map[string]bool{}
	for _, c := range wrongs() {
		bounded[c.field] = true
	}
	for _, k := range kinds() {
		for i, first := range ranks {
			if uses(k, first) && !bounded[first] {
				continue
			}
			m := only(k, full())
			for _, later := range ranks[i+1:] {
				refuses(t, first+" and "+later, applied(m, worse[later], worse[first]), api.ErrWireField, first)
			}
			for _, later := range ranks[i+1:] {
				worse[later].set(&m)
			}
			refuses(t, first+" and all behind it", applied(m, worse[first]), api.ErrWireField, first)
		}
	}
}

// moving is a message MsgMove whose body has so many bytes, from 2000 on.
func moving(n int) api.Msg {
	m := api.Msg{Kind: api.MsgMove, Copies: make([]api.Copy, 64)}
	left := n - len(bodyOf(m))
	// What entries can't take is for the votes, of 9 bytes each.
	for i := 0; left > 50000; i++ {
		c := &m.Copies[i/64]
		c.Votes = append(c.Votes, api.Voted{Tx: uint64(i)})
		left -= 9
	}
	for i := 0; left > 0; i++ {
		size := min(left, 98)
		if left == 99 {
			size = 90
		}
		c, key := &m.Copies[i/8], min(size-2, maxKey)
		c.Data = append(c.Data, api.Entry{Key: strings.Repeat("k", key), Value: strings.Repeat("v", size-2-key)})
		left -= size
	}
	return m
}

func TestBodiesAsLongAsTheyMayBe(t *testing.T) {
	for _, n := range []int{2000, 65000, maxFrame - 2, maxFrame - 1, maxFrame} {
		m := moving(n)
		if len(bodyOf(m)) != n {
			t.Fatalf("%d bytes, want %d", len(bodyOf(m)), n)
		}
		encodes(t, m, bodyOf(m))
		decodes(t, framed(bodyOf(m)), m)
	}
}

func TestBodiesThatAreTooLong(t *testing.T) {
	most := api.Msg{Kind: api.MsgMove, Copies: times(64, heavy())}
	for _, m := range []api.Msg{moving(maxFrame + 1), moving(maxFrame + 2), moving(maxFrame + 50), {Kind: api.MsgMove, Copies: times(2, heavy())}, most} {
		if len(bodyOf(m)) <= maxFrame {
			t.Fatalf("%d bytes", len(bodyOf(m)))
		}
		refuses(t, "too long", m, api.ErrWireLong, "body")
		for _, name := range ranks {
			if !uses(m.Kind, name) {
				refuses(t, "too long, and "+name, with(m, name, full()), api.ErrWireField, name)
			}
		}
		m.Copies[63%len(m.Copies)].Votes = []api.Voted{{Vote: 3}}
		refuses(t, "too long, and a vote", m, api.ErrWireField, "copies")
		m.Kind = 24
		refuses(t, "too long, and its kind", m, api.ErrWireKind, "kind")
	}
}

// What is too long for a frame is still refused first for a field that isn't used.
func TestTooMuchInAFieldThatIsNotUsed(t *testing.T) {
	for _, k := range kinds() {
		if !uses(k, "copies") {
			refuses(t, "copies", api.Msg{Kind: k, Copies: times(64, heavy())}, api.ErrWireField, "copies")
		}
	}
}

func TestEncodeLeavesItsArgumentAlone(t *testing.T) {
	for _, m := range samples() {
		first, _ := wire.Encode(m)
		if want := only(m.Kind, full()); !same(m, want) && !same(m, api.Msg{Kind: m.Kind}) {
			t.Errorf("kind %d: changed", m.Kind)
		}
		kept := bytes.Clone(first)
		clear(first[:cap(first)])
		if second, err := wire.Encode(m); err != nil || !bytes.Equal(second, kept) {
			t.Errorf("kind %d: encoded another time: % x, %v", m.Kind, second, err)
		}
	}
}

// Calls at the same time may be given the same lists, so not even the same value may be written to them.
func TestEncodeAtTheSameTime(t *testing.T) {
	m := only(api.MsgMove, full())
	done := make(chan bool)
	for range 4 {
		go func() {
			b, err := wire.Encode(m)
			done <- err == nil && bytes.Equal(b, framed(bodyOf(m)))
		}()
	}
	for range 4 {
		if !<-done {
			t.Error("encoded otherwise")
		}
	}
}

// Behind an error nothing is kept: the next call answers as if it were the first one.
func TestEncodeBehindAnError(t *testing.T) {
	m := only(api.MsgAccept, full())
	for _, c := range wrongs() {
		wire.Encode(applied(m, c))
	}
	encodes(t, m, bodyOf(m))
	if !reflect.DeepEqual(m, only(api.MsgAccept, full())) {
		t.Error("changed")
	}
}
