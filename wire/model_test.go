package wire_test

import (
	"bytes"
	"encoding/binary"
	"hash/crc32"
	"reflect"
	"strconv"
	"strings"
	"testing"

	"tontine/api"
)

// What the chapter says of messages, worded a second time: a message as the encodings of its fields, and which bytes are such an encoding.

const lastKind = 23

// ranks are the fields in the order in which Encode tells of them.
var ranks = strings.Fields("from to inst ballot accepted value tx id index round bucket replica of inc vote answer copy arc copies pos hops peers")

// layouts are the fields of each kind, in the order of the encoding.
var layouts = [lastKind + 1]string{
	api.MsgPrepare:     "inst ballot",
	api.MsgPromise:     "inst ballot accepted",
	api.MsgNack:        "inst ballot",
	api.MsgAccept:      "inst ballot value tx",
	api.MsgAccepted:    "inst ballot value tx",
	api.MsgLearn:       "index value",
	api.MsgRead:        "bucket replica round",
	api.MsgAnswer:      "bucket replica answer",
	api.MsgVote:        "tx bucket replica",
	api.MsgDecision:    "tx vote",
	api.MsgAskDecision: "id",
	api.MsgFence:       "bucket replica of inc",
	api.MsgFenced:      "bucket replica of inc copy",
	api.MsgMove:        "round arc copies",
	api.MsgMoved:       "round arc",
	api.MsgBeat:        "",
	api.MsgRingAsk:     "",
	api.MsgRingTell:    "peers",
	api.MsgRingNotify:  "peers",
	api.MsgRingLeave:   "peers",
	api.MsgLook:        "pos id hops",
	api.MsgFound:       "pos id hops peers",
	api.MsgAskLearn:    "index",
}

// layout are the fields of a kind, with those that every kind has.
func layout(k api.MsgKind) []string {
	return append([]string{"from", "to"}, strings.Fields(layouts[k])...)
}

func kinds() []api.MsgKind {
	var l []api.MsgKind
	for k := range lastKind {
		l = append(l, api.MsgKind(k+1))
	}
	return l
}

// part is a field of a message, by its name in lowercase.
func part(m *api.Msg, name string) reflect.Value {
	return reflect.ValueOf(m).Elem().FieldByNameFunc(func(s string) bool { return strings.ToLower(s) == name })
}

// with is a message with a field of another one.
func with(m api.Msg, name string, of api.Msg) api.Msg {
	part(&m, name).Set(part(&of, name))
	return m
}

// only is a message of a kind with the fields that this kind uses.
func only(k api.MsgKind, of api.Msg) api.Msg {
	m := api.Msg{Kind: k}
	for _, name := range layout(k) {
		m = with(m, name, of)
	}
	return m
}

// tidy is a value whose empty slices are nil, all the way down.
func tidy(v reflect.Value) reflect.Value {
	n := reflect.New(v.Type()).Elem()
	switch v.Kind() {
	case reflect.Struct:
		for i := range v.NumField() {
			n.Field(i).Set(tidy(v.Field(i)))
		}
	case reflect.Slice:
		for i := range v.Len() {
			n = reflect.Append(n, tidy(v.Index(i)))
		}
	default:
		n.Set(v)
	}
	return n
}

func same(a, b any) bool {
	return reflect.DeepEqual(tidy(reflect.ValueOf(a)).Interface(), tidy(reflect.ValueOf(b)).Interface())
}

// isNothing asks the quick way first.
func isNothing(m api.Msg) bool { return reflect.ValueOf(m).IsZero() || same(m, api.Msg{}) }

var little = binary.LittleEndian

func four(l ...uint32) []byte {
	var b []byte
	for _, v := range l {
		b = little.AppendUint32(b, v)
	}
	return b
}

func eight(l ...uint64) []byte {
	var b []byte
	for _, v := range l {
		b = little.AppendUint64(b, v)
	}
	return b
}

func one(l ...int) []byte {
	var b []byte
	for _, v := range l {
		b = append(b, byte(v))
	}
	return b
}

func str(s string) []byte { return append(one(len(s)), s...) }

func join(l ...[]byte) []byte { return bytes.Join(l, nil) }

func truth(is bool) []byte {
	if is {
		return one(1)
	}
	return one(0)
}

func entriesBytes(l []api.Entry) []byte {
	b := one(len(l))
	for _, e := range l {
		b = join(b, str(e.Key), str(e.Value))
	}
	return b
}

func itemBytes(i api.Item) []byte {
	b := join(one(i.Bucket), four(i.Ver), truth(i.Write), four(i.Incs[:]...))
	if i.Write {
		return join(b, entriesBytes(i.Data))
	}
	return b
}

func txBytes(t api.Tx) []byte {
	b := join(eight(t.ID), four(uint32(t.Client)), one(t.Managers[:]...), one(len(t.Items)))
	for _, i := range t.Items {
		b = join(b, itemBytes(i))
	}
	return b
}

func copyBytes(c api.Copy) []byte {
	b := join(one(int(c.State)), four(c.Inc, c.Ver), entriesBytes(c.Data), one(len(c.Locks)))
	for _, l := range c.Locks {
		b = join(b, eight(l.Tx), one(l.Managers[:]...), itemBytes(l.Item))
	}
	b = join(b, four(c.Fences[:]...), one(len(c.Votes)))
	for _, v := range c.Votes {
		b = join(b, eight(v.Tx), one(int(v.Vote)))
	}
	return b
}

func copiesBytes(l []api.Copy) []byte {
	b := one(len(l))
	for _, c := range l {
		b = append(b, copyBytes(c)...)
	}
	return b
}

func peersBytes(l []api.Peer) []byte {
	b := one(len(l))
	for _, p := range l {
		b = join(b, one(p.Node), eight(p.Pos.Hi, p.Pos.Lo))
	}
	return b
}

func ballotBytes(b api.Ballot) []byte { return join(four(b.Round), one(int(b.Node))) }

func acceptedBytes(a api.Accepted) []byte {
	if !a.Is {
		return one(0)
	}
	return join(one(1), ballotBytes(a.B), str(a.Value))
}

// bytesOf is the encoding of a field.
func bytesOf(m api.Msg, name string) []byte {
	switch name {
	case "inst":
		return join(eight(m.Inst.Tx), one(m.Inst.Bucket, m.Inst.Replica), four(m.Inst.Index))
	case "ballot":
		return ballotBytes(m.Ballot)
	case "accepted":
		return acceptedBytes(m.Accepted)
	case "tx":
		return txBytes(m.Tx)
	case "answer":
		return join(four(m.Answer.Round, m.Answer.Inc, m.Answer.Ver), entriesBytes(m.Answer.Data))
	case "copy":
		return copyBytes(m.Copy)
	case "arc":
		return one(m.Arc.From, m.Arc.Size)
	case "copies":
		return copiesBytes(m.Copies)
	case "pos":
		return eight(m.Pos.Hi, m.Pos.Lo)
	case "peers":
		return peersBytes(m.Peers)
	case "value":
		return str(m.Value)
	case "id":
		return eight(m.ID)
	case "index", "round", "inc":
		return four(uint32(part(&m, name).Uint()))
	}
	return one(int(part(&m, name).Int()))
}

// piece is a field's encoding.
type piece struct {
	name string
	b    []byte
}

func pieces(m api.Msg) []piece {
	var l []piece
	for _, name := range layout(m.Kind) {
		l = append(l, piece{name, bytesOf(m, name)})
	}
	return l
}

// put is a body of a kind and the encodings of its fields.
func put(k api.MsgKind, l []piece) []byte {
	b := one(int(k))
	for _, p := range l {
		b = append(b, p.b...)
	}
	return b
}

func bodyOf(m api.Msg) []byte { return put(m.Kind, pieces(m)) }

var castagnoli = crc32.MakeTable(crc32.Castagnoli)

// framed is the frame of a body, built without package frame.
func framed(body []byte) []byte {
	counted := append(four(uint32(len(body))), body...)
	return join([]byte{0x54, 0x4e}, counted[:4], four(crc32.Checksum(counted, castagnoli)), body)
}

// grammar is what a field's encoding consists of: n256 is a byte of at most 256, w and l 4 and 8 bytes, c a count of at most MaxCount, s32 a string of at most 32 bytes, x8:item at most 8 items; a name stands for what it consists of, and ?name for a bool and, if it is true, for that.
var grammar = map[string]string{
	"from": "n255", "to": "n255", "hops": "n255", "node": "n255", "managers": "node node node",
	"bucket": "n63", "replica": "n3", "of": "n3", "vote": "n2", "state": "n2",
	"index": "w", "round": "w", "inc": "w", "incs": "w w w w", "id": "l", "value": "s64",
	"inst":     "l bucket replica w",
	"ballot":   "w node",
	"accepted": "?proposal", "proposal": "ballot s64",
	"entries": "x8:entry", "entry": "s32 s64",
	"tx":   "l c managers x8:item",
	"lock": "l managers item", "voted": "l vote",
	"answer": "w w w entries",
	"copy":   "state w w entries x64:lock incs x64:voted",
	"copies": "x64:copy",
	"arc":    "n63 n64",
	"pos":    "l l",
	"peers":  "x12:peer", "peer": "node pos",
	"decree": "n5 node node arc w w",
}

// scan is what is left behind the encoding that a rule describes, if the bytes begin with one.
func scan(b []byte, rule string) ([]byte, bool) {
	is := true
	for _, word := range strings.Fields(rule) {
		if b, is = scanWord(b, word); !is {
			return nil, false
		}
	}
	return b, true
}

func scanWord(b []byte, word string) ([]byte, bool) {
	// Whether an item has entries is told ahead of its incarnations, which they stand behind.
	if word == "item" {
		rest, is := scan(b, "bucket w n1 incs")
		if is && b[5] == 1 {
			return scan(rest, "entries")
		}
		return rest, is
	}
	if rule, is := grammar[word]; is {
		return scan(b, rule)
	}
	size := map[byte]int{'w': 4, 'c': 4, 'l': 8}[word[0]]
	if size == 0 {
		size = 1
	}
	if len(b) < size {
		return nil, false
	}
	first, rest := b[0], b[size:]
	switch word[0] {
	case 'c':
		return rest, b[3] < 128
	case 'n', 's', 'x':
		count, each, _ := strings.Cut(word[1:], ":")
		if most, _ := strconv.Atoi(count); int(first) > most {
			return nil, false
		}
		return scanMore(rest, word[0], int(first), each)
	case '?':
		if first == 1 {
			return scan(rest, word[1:])
		}
		return rest, first == 0
	}
	return rest, true
}

func scanMore(b []byte, what byte, n int, each string) ([]byte, bool) {
	switch what {
	case 's':
		if n > len(b) {
			return nil, false
		}
		return b[n:], true
	case 'x':
		return scan(b, strings.Repeat(each+" ", n))
	}
	return b, true
}

// faultIn is what is wrong with a body: OK, if it is a message's.
func faultIn(body []byte) (api.Errno, string) {
	if len(body) == 0 {
		return api.ErrWireForm, "body"
	}
	if body[0] < 1 || body[0] > lastKind {
		return api.ErrWireKind, "kind"
	}
	b, is := body[1:], true
	for _, name := range layout(api.MsgKind(body[0])) {
		if b, is = scanWord(b, name); !is {
			return api.ErrWireForm, name
		}
	}
	if len(b) > 0 {
		return api.ErrWireForm, "body"
	}
	return api.OK, ""
}

// The model is worth something only if it names the fields that messages have, and each of them.
func TestModel(t *testing.T) {
	r := reflect.TypeFor[api.Msg]()
	for i := 1; i < r.NumField(); i++ {
		name := strings.ToLower(r.Field(i).Name)
		if strings.Count(" "+strings.Join(ranks, " ")+" ", " "+name+" ") != 1 {
			t.Errorf("no field %s", name)
		}
	}
	if len(ranks) != r.NumField()-1 || len(kinds()) != int(api.MsgKinds)-1 {
		t.Errorf("%d fields, %d kinds", len(ranks), len(kinds()))
	}
	for _, m := range samples() {
		for _, p := range pieces(m) {
			if rest, is := scanWord(p.b, p.name); !is || len(rest) > 0 {
				t.Errorf("kind %d: %s: % x: %v, % x is left", m.Kind, p.name, p.b, is, rest)
			}
		}
	}
}
