package frame_test

import (
	"bytes"
	"encoding/binary"
	"fmt"
	"math"
	"math/rand/v2"
	"testing"

	"tontine/api"
	"tontine/frame"
)

const maxWaiting = 131072

// feed hands a reader bytes that it must take.
func feed(t *testing.T, r *frame.Reader, b []byte) {
	t.Helper()
	if e := r.Feed(b); e != api.OK {
		t.Fatalf("Feed of %d bytes: %d", len(b), e)
	}
}

// waits asks a reader that has nothing to tell.
func waits(t *testing.T, r *frame.Reader, waiting int) {
	t.Helper()
	if b, ok, e := r.Next(); len(b) > 0 || ok || e != api.OK {
		t.Fatalf("Next: %d bytes, %v, %d, want nothing", len(b), ok, e)
	}
	holds(t, r, waiting)
}

// tells asks a reader that has a body.
func tells(t *testing.T, r *frame.Reader, body []byte) {
	t.Helper()
	if b, ok, e := r.Next(); !bytes.Equal(b, body) || !ok || e != api.OK {
		t.Fatalf("Next: %d bytes, %v, %d, want %d bytes", len(b), ok, e, len(body))
	}
}

// fails asks a reader that is broken.
func fails(t *testing.T, r *frame.Reader, want api.Errno) {
	t.Helper()
	if b, ok, e := r.Next(); len(b) > 0 || ok || e != want {
		t.Fatalf("Next: %d bytes, %v, %d, want %d", len(b), ok, e, want)
	}
}

func holds(t *testing.T, r *frame.Reader, want int) {
	t.Helper()
	if n := r.Waiting(); n != want {
		t.Fatalf("Waiting: %d, want %d", n, want)
	}
}

// take is all bodies that a reader has.
func take(t *testing.T, r *frame.Reader) [][]byte {
	t.Helper()
	var l [][]byte
	for {
		b, ok, e := r.Next()
		if e != api.OK {
			t.Fatalf("Next: %d", e)
		}
		if !ok {
			return l
		}
		l = append(l, b)
	}
}

func same(a, b [][]byte) bool {
	if len(a) != len(b) {
		return false
	}
	for i := range a {
		if !bytes.Equal(a[i], b[i]) {
			return false
		}
	}
	return true
}

func TestReaderOfNothing(t *testing.T) {
	r := frame.New()
	waits(t, r, 0)
	feed(t, r, nil)
	feed(t, r, []byte{})
	waits(t, r, 0)
}

func TestReaderOfAnExample(t *testing.T) {
	r := frame.New()
	feed(t, r, []byte{0x54})
	waits(t, r, 1)
	feed(t, r, []byte{0x4f})
	fails(t, r, api.ErrFrameMark)
	fails(t, r, api.ErrFrameMark)
	holds(t, r, 2)
}

func TestReaderByteByByte(t *testing.T) {
	for _, n := range []int{0, 1, 2, 70, 256, maxFrame} {
		b := framed(some(n))
		r := frame.New()
		for i := range b {
			waits(t, r, i)
			feed(t, r, b[i:i+1])
		}
		holds(t, r, len(b))
		tells(t, r, some(n))
		waits(t, r, 0)
	}
}

func TestReaderKeepsWhatIsBehindAFrame(t *testing.T) {
	next := framed([]byte("next"))
	for i := range next {
		r := frame.New()
		feed(t, r, join(framed([]byte("first")), next[:i]))
		tells(t, r, []byte("first"))
		waits(t, r, i)
		feed(t, r, next[i:])
		tells(t, r, []byte("next"))
		waits(t, r, 0)
	}
}

func TestReaderOfSeveralFramesInOnePiece(t *testing.T) {
	r := frame.New()
	var stream []byte
	for n := range 40 {
		stream = append(stream, framed(some(n%7))...)
	}
	feed(t, r, stream)
	left := len(stream)
	for n := range 40 {
		holds(t, r, left)
		tells(t, r, some(n%7))
		left -= n%7 + overhead
	}
	waits(t, r, 0)
}

// fault is bytes that break a reader as soon as it holds the first At of them.
type fault struct {
	name string
	b    []byte
	at   int
	want api.Errno
}

func faults() []fault {
	body := []byte("body")
	long := make([]byte, maxFrame+1)
	l := []fault{
		{"a mark turned round", parts(0x4e, 0x54, 4, sumOf(4, body), body), 1, api.ErrFrameMark},
		{"another second byte", parts(0x54, 0x54, 4, sumOf(4, body), body), 2, api.ErrFrameMark},
		{"no second byte", []byte{0x54, 0}, 2, api.ErrFrameMark},
		{"one byte too long", parts(0x54, 0x4e, maxFrame+1, 0, nil), 6, api.ErrFrameLong},
		{"one byte too long, all there", parts(0x54, 0x4e, maxFrame+1, sumOf(maxFrame+1, long), long), 6, api.ErrFrameLong},
		{"one byte too long, another sum", parts(0x54, 0x4e, maxFrame+1, 0, long), 6, api.ErrFrameLong},
		{"a length turned round", parts(0x54, 0x4e, 4<<24, sumOf(4<<24, body), body), 6, api.ErrFrameLong},
		{"a length of 2^31", parts(0x54, 0x4e, 1<<31, 0, body), 6, api.ErrFrameLong},
		{"a length below 2^31", parts(0x54, 0x4e, 1<<31-1, 0, body), 6, api.ErrFrameLong},
		{"the greatest length", parts(0x54, 0x4e, math.MaxUint32, 0, body), 6, api.ErrFrameLong},
		{"a length that goes round to nothing", parts(0x54, 0x4e, math.MaxUint32-9, 0, body), 6, api.ErrFrameLong},
		{"another sum of nothing", parts(0x54, 0x4e, 0, 0x48674bc6, nil), 10, api.ErrFrameSum},
		{"another sum of nothing, a frame behind it", join(parts(0x54, 0x4e, 0, 0, nil), framed(body)), 10, api.ErrFrameSum},
		{"another sum", parts(0x54, 0x4e, 4, sumOf(4, body)^1<<31, body), 14, api.ErrFrameSum},
		{"the sum of another length", parts(0x54, 0x4e, 4, sumOf(5, body), body), 14, api.ErrFrameSum},
		{"another sum of the most", parts(0x54, 0x4e, maxFrame, 0, long[:maxFrame]), maxFrame + overhead, api.ErrFrameSum},
		{"another length, a frame behind it", join(parts(0x54, 0x4e, 5, sumOf(4, body), body), framed(body)), 15, api.ErrFrameSum},
		{"all faults", parts(0, 0, maxFrame+1, 0, long), 1, api.ErrFrameMark},
		{"second byte, too long and sum", parts(0x54, 0, maxFrame+1, 0, long), 2, api.ErrFrameMark},
		{"second byte and too long", parts(0x54, 0, math.MaxUint32, 0, body), 2, api.ErrFrameMark},
		{"first byte and sum", parts(0, 0x4e, 4, 0, body), 1, api.ErrFrameMark},
		{"second byte and sum", parts(0x54, 0, 4, 0, body), 2, api.ErrFrameMark},
		{"zeros", make([]byte, 20), 1, api.ErrFrameMark},
	}
	for x := range 256 {
		if x != 0x54 {
			l = append(l, fault{fmt.Sprintf("first byte %#x", x), []byte{byte(x), 0x4e}, 1, api.ErrFrameMark})
		}
		if x != 0x4e {
			l = append(l, fault{fmt.Sprintf("second byte %#x", x), []byte{0x54, byte(x)}, 2, api.ErrFrameMark})
		}
	}
	return l
}

func TestReaderBreaksAtEachFault(t *testing.T) {
	for _, c := range faults() {
		t.Run(c.name, func(t *testing.T) {
			whole := frame.New()
			feed(t, whole, c.b)
			fails(t, whole, c.want)
			holds(t, whole, len(c.b))
			each := frame.New()
			for i := range c.b[:min(len(c.b), c.at+20)] {
				if i < c.at {
					waits(t, each, i)
				} else {
					fails(t, each, c.want)
				}
				feed(t, each, c.b[i:i+1])
			}
			fails(t, each, c.want)
		})
	}
}

func TestReaderWithoutAFaultWaits(t *testing.T) {
	for _, b := range [][]byte{
		{0x54},
		{0x54, 0x4e},
		{0x54, 0x4e, 1, 0, 1},
		{0x54, 0x4e, 0xff, 0xff, 0xff},
		{0x54, 0x4e, 0, 0, 1, 0},
		{0x54, 0x4e, 0, 0, 1, 0, 0, 0, 0, 0},
		{0x54, 0x4e, 0, 0, 0, 0},
		{0x54, 0x4e, 0, 0, 0, 0, 1, 1, 1},
		parts(0x54, 0x4e, 5, 0, []byte("body")),
		parts(0x54, 0x4e, maxFrame, 0, make([]byte, maxFrame-1)),
	} {
		r := frame.New()
		feed(t, r, b)
		waits(t, r, len(b))
		waits(t, r, len(b))
	}
}

func TestBrokenReaderStaysBroken(t *testing.T) {
	for _, c := range faults() {
		t.Run(c.name, func(t *testing.T) {
			r := frame.New()
			feed(t, r, c.b[:c.at])
			for range 3 {
				fails(t, r, c.want)
				holds(t, r, c.at)
			}
			feed(t, r, nil)
			feed(t, r, framed([]byte("right")))
			fails(t, r, c.want)
			holds(t, r, c.at+15)
			feed(t, r, make([]byte, maxWaiting-c.at-15))
			fails(t, r, c.want)
			if e := r.Feed([]byte{0}); e != api.ErrFrameFull {
				t.Fatalf("Feed of one more: %d", e)
			}
			fails(t, r, c.want)
			holds(t, r, maxWaiting)
		})
	}
}

func TestReaderBreaksBehindFrames(t *testing.T) {
	for _, c := range faults() {
		t.Run(c.name, func(t *testing.T) {
			r := frame.New()
			feed(t, r, join(framed(nil), framed([]byte("second")), c.b))
			tells(t, r, nil)
			tells(t, r, []byte("second"))
			fails(t, r, c.want)
			fails(t, r, c.want)
			holds(t, r, len(c.b))
		})
	}
}

func TestFull(t *testing.T) {
	r := frame.New()
	for _, n := range []int{maxWaiting + 1, maxWaiting + 2, 1 << 18} {
		if e := r.Feed(make([]byte, n)); e != api.ErrFrameFull {
			t.Errorf("Feed of %d bytes: %d", n, e)
		}
		waits(t, r, 0)
	}
	most := append(framed(some(maxFrame)), framed(some(65516))...)
	if len(most) != maxWaiting {
		t.Fatalf("%d bytes", len(most))
	}
	feed(t, r, most)
	holds(t, r, maxWaiting)
	feed(t, r, nil)
	for _, b := range [][]byte{{0}, {0x54}, most} {
		if e := r.Feed(b); e != api.ErrFrameFull {
			t.Errorf("Feed of %d more: %d", len(b), e)
		}
		holds(t, r, maxWaiting)
	}
	tells(t, r, some(maxFrame))
	holds(t, r, maxWaiting-maxFrame-overhead)
	tells(t, r, some(65516))
	waits(t, r, 0)
	feed(t, r, most)
	holds(t, r, maxWaiting)
}

func TestFullByPieces(t *testing.T) {
	r := frame.New()
	most := append(framed(some(maxFrame)), framed(some(maxFrame))...)
	feed(t, r, most[:maxWaiting-1])
	if e := r.Feed(most[maxWaiting-1 : maxWaiting+1]); e != api.ErrFrameFull {
		t.Fatalf("Feed of two where there is room for one: %d", e)
	}
	holds(t, r, maxWaiting-1)
	feed(t, r, most[maxWaiting-1:maxWaiting])
	if e := r.Feed(most[maxWaiting : maxWaiting+1]); e != api.ErrFrameFull {
		t.Fatalf("Feed of one more: %d", e)
	}
	tells(t, r, some(maxFrame))
	// What was taken makes room.
	if e := r.Feed(make([]byte, maxFrame+overhead+1)); e != api.ErrFrameFull {
		t.Fatalf("Feed of one more than was taken: %d", e)
	}
	feed(t, r, most[maxWaiting:])
	tells(t, r, some(maxFrame))
	waits(t, r, 0)
}

// Small frames at a reader that is kept nearly full, for far more bytes than it may hold.
func TestLongStreamThroughAFullReader(t *testing.T) {
	r := frame.New()
	piece := framed(some(500))
	sent := 0
	for r.Feed(piece) == api.OK {
		sent++
	}
	if sent != maxWaiting/len(piece) {
		t.Fatalf("%d frames were taken", sent)
	}
	for range 2000 {
		tells(t, r, some(500))
		feed(t, r, piece)
	}
	if l := take(t, r); len(l) != sent {
		t.Errorf("%d frames were left of %d", len(l), sent)
	}
	waits(t, r, 0)
}

// stream is bodies and the bytes of their frames.
func stream(ns ...int) ([][]byte, []byte) {
	var bodies [][]byte
	var b []byte
	for _, n := range ns {
		bodies = append(bodies, some(n))
		w, _ := frame.Wrap(some(n))
		b = append(b, w...)
	}
	return bodies, b
}

func TestStreamInThreePieces(t *testing.T) {
	bodies, b := stream(3, 0, 11, 1, 0)
	for i := range len(b) + 1 {
		for j := i; j <= len(b); j++ {
			asked, last := frame.New(), frame.New()
			var l [][]byte
			for _, p := range [][]byte{b[:i], b[i:j], b[j:]} {
				feed(t, asked, p)
				feed(t, last, p)
				l = append(l, take(t, asked)...)
			}
			if !same(l, bodies) || !same(take(t, last), bodies) {
				t.Fatalf("a stream cut at %d and %d", i, j)
			}
			holds(t, asked, 0)
			holds(t, last, 0)
		}
	}
}

func TestStreamInPiecesOfOneLength(t *testing.T) {
	bodies, b := stream(0, 300, 1, 2, maxFrame, 0, 5, 65535, 4096, maxFrame, 7)
	for _, n := range []int{1, 2, 3, 7, 10, 11, 100, 4096, 65535, 65536, 65546} {
		r := frame.New()
		var l [][]byte
		for rest := b; len(rest) > 0; rest = rest[min(n, len(rest)):] {
			feed(t, r, rest[:min(n, len(rest))])
			l = append(l, take(t, r)...)
		}
		if !same(l, bodies) {
			t.Errorf("a stream in pieces of %d", n)
		}
		holds(t, r, 0)
	}
}

func TestStreamInAnyPieces(t *testing.T) {
	bodies, b := stream(0, 300, 1, 2, maxFrame, 0, 5, 65535, 4096, maxFrame, 7, 20, 0, 0, 30000)
	for seed := range uint64(60) {
		rnd := rand.New(rand.NewPCG(seed, 7))
		r := frame.New()
		var l [][]byte
		for rest := b; len(rest) > 0; {
			p := rest[:min(rnd.IntN(1<<(1+rnd.IntN(17))), len(rest))]
			if r.Feed(p) == api.OK {
				rest = rest[len(p):]
			} else if body, ok, e := r.Next(); ok && e == api.OK {
				l = append(l, body)
			}
			if rnd.IntN(3) == 0 {
				l = append(l, take(t, r)...)
			}
		}
		if l = append(l, take(t, r)...); !same(l, bodies) {
			t.Fatalf("seed %d: %d bodies", seed, len(l))
		}
		holds(t, r, 0)
	}
}

// readerFault is what a reader tells of a frame with a byte changed, if so many bytes came: nothing, if it waits for more.
func readerFault(at int, changed []byte, came int) api.Errno {
	e := faultAt(at, changed)
	if e != api.ErrFrameLength {
		return e
	}
	if int(binary.LittleEndian.Uint32(changed[2:]))+overhead > came {
		return api.OK
	}
	return api.ErrFrameSum
}

func TestReaderRejectsChangedFrames(t *testing.T) {
	behind := framed([]byte("behind"))
	for _, n := range []int{0, 1, 9, 20} {
		for at := range n + overhead {
			for x := 1; x < 256; x++ {
				b := framed(some(n))
				b[at] ^= byte(x)
				stream := join(b, behind)
				r := frame.New()
				feed(t, r, stream)
				fails(t, r, readerFault(at, b, len(stream)))
				holds(t, r, len(stream))
			}
		}
	}
}

// model is a reader as the chapter words it, without regard for what it costs.
type model struct{ held []byte }

func (m *model) feed(b []byte) api.Errno {
	if len(m.held)+len(b) > maxWaiting {
		return api.ErrFrameFull
	}
	m.held = append(m.held, b...)
	return api.OK
}

func (m *model) next() ([]byte, bool, api.Errno) {
	h := m.held
	if len(h) >= 1 && h[0] != 0x54 || len(h) >= 2 && h[1] != 0x4e {
		return nil, false, api.ErrFrameMark
	}
	if len(h) < 6 {
		return nil, false, api.OK
	}
	n := binary.LittleEndian.Uint32(h[2:])
	if n > maxFrame {
		return nil, false, api.ErrFrameLong
	}
	if len(h) < int(n)+overhead {
		return nil, false, api.OK
	}
	body := bytes.Clone(h[overhead : overhead+n])
	if binary.LittleEndian.Uint32(h[6:]) != sumOf(n, body) {
		return nil, false, api.ErrFrameSum
	}
	m.held = bytes.Clone(h[overhead+n:])
	return body, true, api.OK
}

// piece is what a stream may hold next: most are frames, or parts of them; a few are faults.
func piece(rnd *rand.Rand) []byte {
	b := framed(some(rnd.IntN(1 << rnd.IntN(17))))
	switch rnd.IntN(40) {
	case 0:
		b[rnd.IntN(overhead)] ^= byte(1 + rnd.IntN(255))
	case 1:
		b[rnd.IntN(len(b))] ^= 1 << rnd.IntN(8)
	case 2:
		return some(rnd.IntN(12))
	}
	return b
}

func TestReaderAgainstModel(t *testing.T) {
	seen := map[api.Errno]int{}
	for seed := range uint64(250) {
		rnd := rand.New(rand.NewPCG(seed, 11))
		r, m := frame.New(), &model{}
		var rest []byte
		for range 120 {
			if len(rest) == 0 {
				rest = piece(rnd)
			}
			n := min(len(rest), rnd.IntN(1<<(1+rnd.IntN(17))))
			e, want := r.Feed(rest[:n]), m.feed(rest[:n])
			if e != want {
				t.Fatalf("seed %d: Feed: %d, want %d", seed, e, want)
			}
			seen[e]++
			if e == api.OK {
				rest = rest[n:]
			}
			for range rnd.IntN(3) {
				b, ok, e := r.Next()
				wantB, wantOK, wantE := m.next()
				if !bytes.Equal(b, wantB) || ok != wantOK || e != wantE {
					t.Fatalf("seed %d: Next: %d bytes, %v, %d, want %d, %v, %d", seed, len(b), ok, e, len(wantB), wantOK, wantE)
				}
				seen[e]++
			}
			holds(t, r, len(m.held))
		}
	}
	for _, e := range []api.Errno{api.OK, api.ErrFrameFull, api.ErrFrameMark, api.ErrFrameLong, api.ErrFrameSum} {
		if seen[e] == 0 {
			t.Errorf("no reader came to %d", e)
		}
	}
}

func TestReadersAreApart(t *testing.T) {
	a, b := frame.New(), frame.New()
	first, second := framed([]byte("first")), framed([]byte("second"))
	feed(t, a, first[:7])
	feed(t, b, second[:9])
	feed(t, a, first[7:])
	feed(t, b, second[9:])
	tells(t, b, []byte("second"))
	tells(t, a, []byte("first"))
	feed(t, a, []byte{0})
	fails(t, a, api.ErrFrameMark)
	waits(t, b, 0)
}

func TestReaderSharesNoMemory(t *testing.T) {
	r := frame.New()
	p := spare(join(framed([]byte("first")), framed([]byte("second"))))
	kept := bytes.Clone(p)
	feed(t, r, p)
	if !bytes.Equal(p, kept) || !untouched(p) {
		t.Error("Feed changed its argument")
	}
	clear(p[:cap(p)])
	first, _, _ := r.Next()
	if string(first) != "first" {
		t.Errorf("Next behind a changed argument: %q", first)
	}
	clear(first[:cap(first)])
	second, _, _ := r.Next()
	if string(second) != "second" {
		t.Errorf("Next behind a changed result: %q", second)
	}
	feed(t, r, kept)
	tells(t, r, []byte("first"))
	if string(second) != "second" || string(first) != "\x00\x00\x00\x00\x00" {
		t.Errorf("Feed and Next changed a result: %q, %q", first, second)
	}
}

func TestReaderLeavesItsArgumentAloneLater(t *testing.T) {
	r := frame.New()
	p := spare(framed([]byte("first")))
	kept := bytes.Clone(p)
	feed(t, r, p)
	feed(t, r, framed([]byte("second")))
	tells(t, r, []byte("first"))
	feed(t, r, framed([]byte("third")))
	tells(t, r, []byte("second"))
	tells(t, r, []byte("third"))
	if !bytes.Equal(p, kept) || !untouched(p) {
		t.Error("a later call changed what was fed")
	}
}

func TestNilReader(t *testing.T) {
	var r *frame.Reader
	for _, b := range [][]byte{nil, {}, {0}, framed([]byte("body")), make([]byte, maxWaiting), make([]byte, maxWaiting+1)} {
		if e := r.Feed(b); e != api.ErrArg {
			t.Errorf("Feed of %d bytes to nil: %d", len(b), e)
		}
		if n := r.Waiting(); n != 0 {
			t.Errorf("Waiting of nil: %d", n)
		}
		if got, ok, e := r.Next(); len(got) > 0 || ok || e != api.ErrArg {
			t.Errorf("Next of nil: %x, %v, %d", got, ok, e)
		}
	}
}
