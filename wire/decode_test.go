package wire_test

import (
	"bytes"
	"cmp"
	"reflect"
	"slices"
	"strings"
	"testing"

	"tontine/api"
	"tontine/wire"
)

func decodes(t *testing.T, b []byte, want api.Msg) {
	t.Helper()
	m, err := wire.Decode(b)
	if err != nil {
		t.Errorf("kind %d: % x: %v", want.Kind, b, err)
	} else if !same(m, want) {
		t.Errorf("% x: %+v, want %+v", b, m, want)
	}
}

// rejects holds what Decode answers to a frame that is no message's.
func rejects(t *testing.T, what string, b []byte, want api.Errno, of string) {
	t.Helper()
	m, err := wire.Decode(b)
	if !isNothing(m) || !isFault(err, want, of) {
		t.Errorf("%s: % x: %+v, %v, want %s: %d", what, b, m, err, of, want)
	}
}

func TestDecodeExamples(t *testing.T) {
	rejects(t, "nothing", nil, api.ErrFrameMark, "frame")
	rejects(t, "the frame of nothing", framed(nil), api.ErrWireForm, "body")
	rejects(t, "kind 24", framed(raw("18")), api.ErrWireKind, "kind")
	rejects(t, "no To", framed(raw("10 01")), api.ErrWireForm, "to")
	rejects(t, "one more", framed(raw("10 01 02 00")), api.ErrWireForm, "body")
	rejects(t, "bucket 64", framed(raw("07 00 03 40")), api.ErrWireForm, "bucket")
	decodes(t, framed(raw("10 01 02")), api.Msg{Kind: api.MsgBeat, From: 1, To: 2})
	decodes(t, framed(raw("07 00 03 05 01 02 01 00 00")), api.Msg{Kind: api.MsgRead, To: 3, Bucket: 5, Replica: 1, Round: 258})
}

func TestDecodeOfNoFrame(t *testing.T) {
	right := framed(bodyOf(only(api.MsgAccept, full())))
	spoilt := func(at int, x byte) []byte {
		b := bytes.Clone(right)
		b[at] = x
		return b
	}
	for _, c := range []struct {
		b    []byte
		want api.Errno
	}{
		{[]byte{}, api.ErrFrameMark},
		{right[:9], api.ErrFrameMark},
		{spoilt(0, 0), api.ErrFrameMark},
		{spoilt(1, 0), api.ErrFrameMark},
		{raw("54 4e 01 00 01 00 00 00 00 00"), api.ErrFrameLong},
		{spoilt(4, 1), api.ErrFrameLong},
		{raw("54 4e 01 00 00 00 00 00 00 00"), api.ErrFrameLength},
		{right[:len(right)-1], api.ErrFrameLength},
		{append(bytes.Clone(right), 0), api.ErrFrameLength},
		{append(bytes.Clone(right), right...), api.ErrFrameLength},
		{spoilt(6, right[6]^1), api.ErrFrameSum},
		{spoilt(10, 24), api.ErrFrameSum},
		{spoilt(11, 0), api.ErrFrameSum},
		{raw("54 4e 00 00 00 00 00 00 00 00"), api.ErrFrameSum},
		{make([]byte, 1<<20), api.ErrFrameMark},
	} {
		rejects(t, "no frame", c.b, c.want, "frame")
	}
}

func TestDecodeKind(t *testing.T) {
	for x := range 256 {
		if 1 <= x && x <= lastKind {
			continue
		}
		for _, rest := range []string{"", "00", "01 02", "01 02 00 00 00 00 00 00 00"} {
			rejects(t, "a kind", framed(append(one(x), raw(rest)...)), api.ErrWireKind, "kind")
		}
	}
}

func TestDecodeSamples(t *testing.T) {
	for _, m := range samples() {
		decodes(t, framed(bodyOf(m)), m)
	}
}

// cutFault is what is wrong with a body of which so many bytes are left.
func cutFault(m api.Msg, n int) string {
	if n == 0 {
		return "body"
	}
	end := 1
	for _, p := range pieces(m) {
		if end += len(p.b); n < end {
			return p.name
		}
	}
	return ""
}

func TestCutBodies(t *testing.T) {
	for _, m := range samples() {
		b := bodyOf(m)
		for n := range len(b) {
			rejects(t, "a cut body", framed(b[:n]), api.ErrWireForm, cutFault(m, n))
		}
	}
}

func TestBytesBehindABody(t *testing.T) {
	for _, m := range samples() {
		b := bodyOf(m)
		for _, more := range [][]byte{{0}, {1}, {0xff}, make([]byte, 100), b} {
			rejects(t, "bytes left over", framed(join(b, more)), api.ErrWireForm, "body")
		}
	}
	b := bodyOf(only(api.MsgFound, full()))
	rejects(t, "as many bytes left over as may be", framed(append(b, make([]byte, maxFrame-len(b))...)), api.ErrWireForm, "body")
}

const (
	zeroWord  = "00000000"
	zeroLong  = "0000000000000000"
	zeroIncs  = zeroWord + zeroWord + zeroWord + zeroWord
	zeroItem  = "00" + zeroWord + "00" + zeroIncs
	zeroLock  = zeroLong + "000000" + zeroItem
	zeroCopy  = "00" + zeroWord + zeroWord + "00 00" + zeroIncs + "00"
	zeroPeer  = "00" + zeroLong + zeroLong
	zeroVoted = zeroLong + "00"
)

// wrongText are encodings of no string of at most so many bytes.
func wrongText(most int) [][]byte {
	var l [][]byte
	for _, n := range []int{most + 1, most + 2, 128, 255} {
		l = append(l, append(one(n), make([]byte, n)...))
	}
	return l
}

// behind are bytes with the same ones ahead of each.
func behind(first string, l [][]byte) [][]byte {
	var to [][]byte
	for _, b := range l {
		to = append(to, join(raw(first), b))
	}
	return to
}

// tooMany is one element more than there may be, all of them there.
func tooMany(most int, element string) [][]byte {
	return [][]byte{append(one(most+1), raw(strings.Repeat(element, most+1))...)}
}

// octets are all bytes from one on.
func octets(from int) [][]byte {
	var l [][]byte
	for x := from; x < 256; x++ {
		l = append(l, one(x))
	}
	return l
}

func all(l ...[][]byte) [][]byte {
	var to [][]byte
	for _, m := range l {
		to = append(to, m...)
	}
	return to
}

func wrongEntriesBytes() [][]byte {
	return all(octets(9), tooMany(8, "0000"), behind("01", wrongText(maxKey)), behind("01 00", wrongText(maxValue)), behind("02 0161 0162 01 63", wrongText(maxValue)), behind("08"+zeroLong+"000000000000", wrongText(maxKey)))
}

func wrongItemBytes() [][]byte {
	return all(octets(64), behind("00"+zeroWord, octets(2)), behind("3f ffffffff 01"+zeroIncs, wrongEntriesBytes()))
}

func wrongCopyBytes() [][]byte {
	words := zeroWord + zeroWord
	return all(octets(3), behind("02"+words, wrongEntriesBytes()), behind("01"+words+"00", octets(65)),
		behind("01"+words+"00", tooMany(64, zeroLock)), behind("01"+words+"00 00"+zeroIncs, tooMany(64, zeroVoted)),
		behind("01"+words+"00 01"+zeroLong+"ffffff", wrongItemBytes()), behind("01"+words+"00 02"+zeroLock+zeroLong+"000000", wrongItemBytes()),
		behind("00"+words+"00 00"+zeroIncs, octets(65)), behind("00"+words+"00 00"+zeroIncs+"01"+zeroLong, octets(3)),
		behind("00"+words+"00 01"+zeroLock+zeroIncs+"02"+zeroLong+"02"+zeroLong, octets(3)))
}

// wrongBytes are some that begin no encoding of a field, whatever comes behind them.
func wrongBytes() map[string][][]byte {
	return map[string][][]byte{
		"inst":     all(behind(zeroLong, octets(64)), behind(zeroLong+"3f", octets(4))),
		"accepted": all(octets(2), behind("01"+zeroWord+"ff", wrongText(maxText))),
		"value":    wrongText(maxText),
		"tx": all(behind(zeroLong, [][]byte{raw("00000080"), raw("ffffffff"), raw("010000ff")}), behind(zeroLong+"ffffff7f ffffff", octets(9)), behind(zeroLong+"ffffff7f ffffff", tooMany(8, zeroItem)),
			behind(zeroLong+zeroWord+"000000 01", wrongItemBytes()), behind(zeroLong+zeroWord+"000000 08"+zeroItem, wrongItemBytes())),
		"bucket":  octets(64),
		"replica": octets(4),
		"of":      octets(4),
		"vote":    octets(3),
		"answer":  behind(zeroWord+zeroWord+zeroWord, wrongEntriesBytes()),
		"copy":    wrongCopyBytes(),
		"arc":     all(octets(64), behind("3f", octets(65))),
		"copies":  all(octets(65), tooMany(64, zeroCopy), behind("01", wrongCopyBytes()), behind("40"+zeroCopy, wrongCopyBytes())),
		"peers":   all(octets(13), tooMany(12, zeroPeer)),
	}
}

// spoilt is a body in which fields are replaced by other bytes.
func spoilt(m api.Msg, with map[string][]byte) []byte {
	l := pieces(m)
	for i, p := range l {
		if b, is := with[p.name]; is {
			l[i].b = b
		}
	}
	return put(m.Kind, l)
}

func TestBytesThatEncodeNoValue(t *testing.T) {
	wrong := wrongBytes()
	for _, m := range samples() {
		for _, p := range pieces(m) {
			for _, b := range wrong[p.name] {
				rejects(t, p.name, framed(spoilt(m, map[string][]byte{p.name: b})), api.ErrWireForm, p.name)
			}
		}
	}
}

// Each byte of a field in which each value has a meaning: none is rejected, and none is lost.
func TestBytesThatEncodeValues(t *testing.T) {
	free := map[string]int{"from": 256, "to": 256, "hops": 256, "bucket": 64, "replica": 4, "of": 4, "vote": 3}
	for _, k := range kinds() {
		for name, n := range free {
			if !uses(k, name) {
				continue
			}
			for x := range n {
				m := only(k, full())
				part(&m, name).SetInt(int64(x))
				decodes(t, framed(spoilt(only(k, full()), map[string][]byte{name: one(x)})), m)
			}
		}
	}
}

// Of several faults, the one is told that comes first in the order of the encoding.
func TestFirstOfSeveralFaultsInBytes(t *testing.T) {
	wrong := wrongBytes()
	for _, k := range kinds() {
		m := only(k, full())
		l := pieces(m)
		for i, first := range l {
			for _, later := range l[i+1:] {
				if len(wrong[first.name]) == 0 || len(wrong[later.name]) == 0 {
					continue
				}
				b := spoilt(m, map[string][]byte{first.name: wrong[first.name][0], later.name: wrong[later.name][0]})
				rejects(t, first.name+" and "+later.name, framed(b), api.ErrWireForm, first.name)
			}
			// A fault of a field, and an end behind it.
			if len(wrong[first.name]) > 0 {
				b := put(k, append(append([]piece{}, l[:i]...), piece{first.name, wrong[first.name][0]}))
				rejects(t, first.name+" and an end", framed(b), api.ErrWireForm, first.name)
			}
		}
	}
	rejects(t, "a kind, and no fields", framed(one(0)), api.ErrWireKind, "kind")
}

// Numbers of elements that are told of a body that has none of them cost no more than the body's bytes.
func TestManyElementsToldOfAShortBody(t *testing.T) {
	for _, c := range []struct{ body, of string }{
		{"0e 00 00" + zeroWord + "00 00 40", "copies"},
		{"12 00 00 0c", "peers"},
		{"0a 00 00" + zeroLong + zeroWord + "000000 08", "tx"},
		{"0d 00 00 00 00 01" + zeroWord + "00" + zeroWord + zeroWord + "00 40", "copy"},
		{"08 00 00 00 00" + zeroWord + zeroWord + zeroWord + "08", "answer"},
	} {
		rejects(t, "no elements", framed(raw(c.body)), api.ErrWireForm, c.of)
	}
}

func TestDecodeLeavesItsArgumentAlone(t *testing.T) {
	for _, m := range samples() {
		b := append(framed(bodyOf(m)), make([]byte, 40)...)
		for i := range 40 {
			b[len(b)-40+i] = 0xa5
		}
		kept := bytes.Clone(b)
		told, err := wire.Decode(b[:len(b)-40])
		if err != nil || !bytes.Equal(b, kept) {
			t.Errorf("kind %d: %v, or changed", m.Kind, err)
		}
		clear(b)
		if !same(told, m) {
			t.Errorf("kind %d: shares memory with the frame", m.Kind)
		}
	}
}

// memory are the addresses of a value's lists, up to their capacities: where each one begins and ends.
func memory(v reflect.Value) [][2]uintptr {
	var l [][2]uintptr
	switch v.Kind() {
	case reflect.Struct:
		for i := range v.NumField() {
			l = append(l, memory(v.Field(i))...)
		}
	case reflect.Slice:
		if v.Cap() > 0 {
			l = append(l, [2]uintptr{v.Pointer(), v.Pointer() + uintptr(v.Cap())*v.Type().Elem().Size()})
		}
		for i := range v.Len() {
			l = append(l, memory(v.Index(i))...)
		}
	}
	return l
}

func TestDecodedListsShareNoMemory(t *testing.T) {
	for _, m := range append(samples(), moving(maxFrame), api.Msg{Kind: api.MsgFenced, Copy: heavy()}) {
		b := framed(bodyOf(m))
		first, _ := wire.Decode(b)
		second, _ := wire.Decode(b)
		l := append(memory(reflect.ValueOf(first)), memory(reflect.ValueOf(second))...)
		l = append(l, memory(reflect.ValueOf(b))...)
		slices.SortFunc(l, func(a, b [2]uintptr) int { return cmp.Compare(a[0], b[0]) })
		for i := 1; i < len(l); i++ {
			if l[i][0] < l[i-1][1] {
				t.Errorf("kind %d: lists share memory", m.Kind)
			}
		}
	}
}
