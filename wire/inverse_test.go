package wire_test

import (
	"bytes"
	"errors"
	"math/rand/v2"
	"testing"

	"tontine/api"
	"tontine/wire"
)

// inverts holds Encode and Decode of a message against each other and the model.
func inverts(t *testing.T, m api.Msg) {
	t.Helper()
	if len(bodyOf(m)) > maxFrame {
		refuses(t, "too long", m, api.ErrWireLong, "body")
		return
	}
	encodes(t, m, bodyOf(m))
	decodes(t, framed(bodyOf(m)), m)
}

func TestThereAndBack(t *testing.T) {
	seen := map[api.MsgKind]int{}
	for seed := range uint64(8000) {
		m := newChance(seed).msg()
		inverts(t, m)
		seen[m.Kind]++
	}
	for _, k := range kinds() {
		if seen[k] < 100 {
			t.Errorf("kind %d: %d messages", k, seen[k])
		}
	}
}

// back holds Decode of a body against the model: either its message has this body again, or its fault is the first one.
func back(t *testing.T, body []byte) (api.Errno, string) {
	t.Helper()
	want, of := faultIn(body)
	if want != api.OK {
		rejects(t, "a body", framed(body), want, of)
		return want, of
	}
	m, err := wire.Decode(framed(body))
	if err != nil {
		t.Errorf("% x: %v", body, err)
		return want, of
	}
	encodes(t, m, body)
	if !bytes.Equal(bodyOf(m), body) {
		t.Errorf("% x: %+v", body, m)
	}
	return want, of
}

// bent is a body with something done to it.
func bent(r *rand.Rand, body []byte) []byte {
	b := bytes.Clone(body)
	at := r.IntN(len(b))
	switch r.IntN(7) {
	case 0:
		return b[:at]
	case 1:
		return append(b, byte(r.Uint32()))
	case 2:
		return append(b[:at], b[at+1:]...)
	case 3:
		return append(b[:at], append([]byte{byte(r.IntN(3))}, body[at:]...)...)
	case 4:
		b[at] = byte(r.Uint32())
	case 5:
		b[at] += byte(r.IntN(3)) - 1
	case 6:
		b[min(at, r.IntN(12))] = byte(r.IntN(70))
	}
	return b
}

func TestBentBodies(t *testing.T) {
	type told struct {
		e  api.Errno
		of string
	}
	seen := map[told]int{}
	for seed := range uint64(30000) {
		r := newChance(1<<40 + seed)
		b := bodyOf(r.msg())
		for range 1 + r.IntN(3) {
			if len(b) > 0 && len(b) < maxFrame {
				b = bent(r.Rand, b)
			}
		}
		if len(b) <= maxFrame {
			e, of := back(t, b)
			seen[told{e, of}]++
		}
	}
	for _, name := range append([]string{"body"}, ranks...) {
		if seen[told{api.ErrWireForm, name}] == 0 {
			t.Errorf("no fault of %s", name)
		}
	}
	if seen[told{api.ErrWireKind, "kind"}] == 0 || seen[told{api.OK, ""}] < 1000 {
		t.Error("no fault of a kind, or few messages")
	}
}

func TestAnyBytesAsBodies(t *testing.T) {
	for seed := range uint64(20000) {
		r := newChance(1<<41 + seed)
		b := make([]byte, r.IntN(60))
		for i := range b {
			b[i] = byte(r.Uint32()) >> r.IntN(9)
		}
		if len(b) > 0 {
			b[0] %= lastKind + 3
		}
		back(t, b)
	}
}

func TestShortBodies(t *testing.T) {
	back(t, nil)
	for x := range 256 {
		back(t, one(x))
		back(t, one(int(api.MsgRingTell), 1, 2, x))
		for y := range lastKind + 3 {
			back(t, one(y, x))
			back(t, one(y, x, y))
			back(t, one(y, y, x))
		}
	}
}

// frameFault tells whether an error is one of a frame's.
func frameFault(err error) bool {
	var f *api.Fault
	return errors.As(err, &f) && f.Of == "frame" && (f.Err == api.ErrFrameMark || f.Err == api.ErrFrameLong || f.Err == api.ErrFrameLength || f.Err == api.ErrFrameSum)
}

func TestFramesInWhichOneByteWasChanged(t *testing.T) {
	for _, m := range samples() {
		b, _ := wire.Encode(m)
		for at := range b {
			// The shortest frames are tried with every other byte at each place, the longer ones with fewer.
			step := 1 + len(b)/20
			for x := 1; x < 256; x += step {
				b[at] ^= byte(x)
				if got, err := wire.Decode(b); !isNothing(got) || !frameFault(err) {
					t.Fatalf("kind %d: byte %d is another: %+v, %v", m.Kind, at, got, err)
				}
				b[at] ^= byte(x)
			}
		}
		decodes(t, b, m)
	}
}

// Messages that differ have frames that differ.
func TestEachMessageHasItsOwnFrame(t *testing.T) {
	seen := map[string]api.Msg{}
	add := func(m api.Msg) {
		b, err := wire.Encode(m)
		if err != nil {
			return
		}
		if other, is := seen[string(b)]; is && !same(other, m) {
			t.Errorf("one frame: %+v and %+v", other, m)
		}
		seen[string(b)] = m
	}
	for _, k := range kinds() {
		for _, c := range append(edges(), leaves()...) {
			if uses(k, c.field) {
				add(applied(api.Msg{Kind: k}, c))
				add(applied(only(k, full()), c))
			}
		}
	}
}

func FuzzDecode(f *testing.F) {
	for _, m := range samples() {
		f.Add(bodyOf(m))
	}
	f.Fuzz(func(t *testing.T, body []byte) {
		wire.Decode(body)
		if len(body) <= maxFrame {
			back(t, body)
		}
	})
}
