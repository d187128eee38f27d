package frame_test

import (
	"bytes"
	"encoding/binary"
	"hash/crc32"
	"math"
	"math/rand/v2"
	"testing"

	"tontine/api"
	"tontine/frame"
)

// The calls, as the chapter lists them.
var (
	_ func(uint32, []byte) uint32                   = frame.Sum
	_ func([]byte) ([]byte, api.Errno)              = frame.Wrap
	_ func([]byte) ([]byte, api.Errno)              = frame.Unwrap
	_ func() *frame.Reader                          = frame.New
	_ func(*frame.Reader, []byte) api.Errno         = (*frame.Reader).Feed
	_ func(*frame.Reader) ([]byte, bool, api.Errno) = (*frame.Reader).Next
	_ func(*frame.Reader) int                       = (*frame.Reader).Waiting
)

const (
	maxFrame = 65536
	overhead = 10
)

var castagnoli = crc32.MakeTable(crc32.Castagnoli)

// lengths are those of bodies, at the edges of the bytes that tell them, and of what may be.
var lengths = []int{0, 1, 2, 3, 4, 5, 9, 10, 11, 255, 256, 257, 4096, 65279, 65280, 65535, maxFrame}

// some are bytes without a pattern, the same ones each time.
func some(n int) []byte {
	r := rand.New(rand.NewPCG(3, uint64(n)))
	b := make([]byte, n)
	for i := range b {
		b[i] = byte(r.Uint32())
	}
	return b
}

// parts are a frame's first three, and its body, right or wrong.
func parts(first, second byte, n, sum uint32, body []byte) []byte {
	b := []byte{first, second}
	b = binary.LittleEndian.AppendUint32(b, n)
	b = binary.LittleEndian.AppendUint32(b, sum)
	return append(b, body...)
}

// sumOf is the right sum of a length and a body.
func sumOf(n uint32, body []byte) uint32 {
	return crc32.Checksum(append(binary.LittleEndian.AppendUint32(nil, n), body...), castagnoli)
}

// framed is the frame of a body, built without package frame.
func framed(body []byte) []byte {
	n := uint32(len(body))
	return parts(0x54, 0x4e, n, sumOf(n, body), body)
}

func join(l ...[]byte) []byte { return bytes.Join(l, nil) }

func TestSum(t *testing.T) {
	up := make([]byte, 32)
	for i := range up {
		up[i] = byte(i)
	}
	for _, c := range []struct {
		b    []byte
		want uint32
	}{
		{[]byte("123456789"), 0xe3069283},
		{nil, 0},
		{[]byte{}, 0},
		{make([]byte, 4), 0x48674bc7},
		{make([]byte, 32), 0x8a9136aa},
		{bytes.Repeat([]byte{0xff}, 32), 0x62a8ab43},
		{up, 0x46dd794e},
	} {
		if got := frame.Sum(0, c.b); got != c.want {
			t.Errorf("Sum(0, %x): %#x, want %#x", c.b, got, c.want)
		}
	}
}

func TestSumOfEachByte(t *testing.T) {
	for x := range 256 {
		for _, b := range [][]byte{{byte(x)}, {0, byte(x)}, {byte(x), 0xff}} {
			if got, want := frame.Sum(0, b), crc32.Checksum(b, castagnoli); got != want {
				t.Errorf("Sum(0, %x): %#x, want %#x", b, got, want)
			}
		}
	}
	for _, n := range lengths {
		if got, want := frame.Sum(0, some(n)), crc32.Checksum(some(n), castagnoli); got != want {
			t.Errorf("Sum of %d bytes: %#x, want %#x", n, got, want)
		}
	}
}

func TestSumGoesOn(t *testing.T) {
	b := some(300)
	want := crc32.Checksum(b, castagnoli)
	for i := range len(b) + 1 {
		if got := frame.Sum(frame.Sum(0, b[:i]), b[i:]); got != want {
			t.Errorf("Sum of %d bytes and the others: %#x, want %#x", i, got, want)
		}
	}
	var each uint32
	for _, x := range b {
		each = frame.Sum(frame.Sum(each, nil), []byte{x})
	}
	if each != want {
		t.Errorf("Sum byte by byte: %#x, want %#x", each, want)
	}
}

// Any number is the sum of some four bytes.
func TestSumBehindAnySum(t *testing.T) {
	for _, sum := range []uint32{0, 1, 0x82f63b78, 0xe3069283, 1 << 31, math.MaxUint32, math.MaxUint32 - 1} {
		for n := range 20 {
			if got, want := frame.Sum(sum, some(n)), crc32.Update(sum, castagnoli, some(n)); got != want {
				t.Errorf("Sum(%#x, %d bytes): %#x, want %#x", sum, n, got, want)
			}
		}
		if got := frame.Sum(sum, nil); got != sum {
			t.Errorf("Sum(%#x, nothing): %#x", sum, got)
		}
	}
}

func TestWrap(t *testing.T) {
	nothing := []byte{0x54, 0x4e, 0, 0, 0, 0, 0xc7, 0x4b, 0x67, 0x48}
	for _, body := range [][]byte{nil, {}} {
		if b, e := frame.Wrap(body); e != api.OK || !bytes.Equal(b, nothing) {
			t.Errorf("Wrap of nothing: %x, %d", b, e)
		}
	}
	for _, n := range lengths {
		if b, e := frame.Wrap(some(n)); e != api.OK || !bytes.Equal(b, framed(some(n))) {
			t.Errorf("Wrap of %d bytes: %d bytes, %d", n, len(b), e)
		}
	}
}

func TestWrapOfTooMuch(t *testing.T) {
	for _, n := range []int{maxFrame + 1, maxFrame + 2, maxFrame + 256, 1 << 17, 1<<18 + 1} {
		if b, e := frame.Wrap(make([]byte, n)); e != api.ErrFrameLong || len(b) > 0 {
			t.Errorf("Wrap of %d bytes: %d bytes, %d", n, len(b), e)
		}
	}
}

func TestUnwrap(t *testing.T) {
	for _, n := range lengths {
		body, e := frame.Unwrap(framed(some(n)))
		if e != api.OK || !bytes.Equal(body, some(n)) {
			t.Errorf("Unwrap of a frame of %d bytes: %d bytes, %d", n, len(body), e)
		}
	}
	inner := framed([]byte("inner"))
	if body, e := frame.Unwrap(framed(inner)); e != api.OK || !bytes.Equal(body, inner) {
		t.Errorf("Unwrap of a frame in a frame: %x, %d", body, e)
	}
}

func TestUnwrapOfFaults(t *testing.T) {
	body := []byte("body")
	right := framed(body)
	long := make([]byte, maxFrame+1)
	for _, c := range []struct {
		name string
		b    []byte
		want api.Errno
	}{
		{"nil", nil, api.ErrFrameMark},
		{"nothing", []byte{}, api.ErrFrameMark},
		{"a length of 1, no body", []byte{0x54, 0x4e, 1, 0, 0, 0, 0, 0, 0, 0}, api.ErrFrameLength},
		{"a length of 65537", []byte{0x54, 0x4e, 1, 0, 1, 0, 0, 0, 0, 0}, api.ErrFrameLong},
		{"a length of 65536, no body", []byte{0x54, 0x4e, 0, 0, 1, 0, 0, 0, 0, 0}, api.ErrFrameLength},
		{"nine bytes of a frame of nothing", framed(nil)[:9], api.ErrFrameMark},
		{"nine bytes, too long", parts(0x54, 0x4e, maxFrame+1, 0, nil)[:9], api.ErrFrameMark},
		{"one byte of a mark", []byte{0x54}, api.ErrFrameMark},
		{"another first byte", parts(0x55, 0x4e, 4, sumOf(4, body), body), api.ErrFrameMark},
		{"another second byte", parts(0x54, 0x4d, 4, sumOf(4, body), body), api.ErrFrameMark},
		{"a mark turned round", parts(0x4e, 0x54, 4, sumOf(4, body), body), api.ErrFrameMark},
		{"a frame behind a byte", join([]byte{0}, right), api.ErrFrameMark},
		{"another length", parts(0x54, 0x4e, 5, sumOf(5, body), body), api.ErrFrameLength},
		{"a length of nothing", parts(0x54, 0x4e, 0, sumOf(0, body), body), api.ErrFrameLength},
		{"a length turned round", parts(0x54, 0x4e, 4<<24, sumOf(4<<24, body), body), api.ErrFrameLong},
		{"a byte behind it", join(right, []byte{0}), api.ErrFrameLength},
		{"a frame behind it", join(right, right), api.ErrFrameLength},
		{"another sum", parts(0x54, 0x4e, 4, sumOf(4, body)+1, body), api.ErrFrameSum},
		{"no sum", parts(0x54, 0x4e, 4, 0, body), api.ErrFrameSum},
		{"the sum of the body alone", parts(0x54, 0x4e, 4, crc32.Checksum(body, castagnoli), body), api.ErrFrameSum},
		{"another sum of nothing", parts(0x54, 0x4e, 0, 0, nil), api.ErrFrameSum},
		{"one byte too long", parts(0x54, 0x4e, maxFrame+1, sumOf(maxFrame+1, long), long), api.ErrFrameLong},
		{"the greatest length", parts(0x54, 0x4e, math.MaxUint32, 0, body), api.ErrFrameLong},
		{"a length of 2^31", parts(0x54, 0x4e, 1<<31, 0, nil), api.ErrFrameLong},
		{"a length that goes round to nothing", parts(0x54, 0x4e, math.MaxUint32-9, 0, nil), api.ErrFrameLong},
		{"all faults", parts(0, 0, maxFrame+1, 0, body), api.ErrFrameMark},
		{"mark and length", parts(0x54, 0, 5, sumOf(5, body), body), api.ErrFrameMark},
		{"mark and sum", parts(0, 0x4e, 4, 0, body), api.ErrFrameMark},
		{"too long and sum", parts(0x54, 0x4e, maxFrame+1, 0, long), api.ErrFrameLong},
		{"length and sum", parts(0x54, 0x4e, 5, 0, body), api.ErrFrameLength},
	} {
		if got, e := frame.Unwrap(c.b); e != c.want || len(got) > 0 {
			t.Errorf("Unwrap of %s: %x, %d, want %d", c.name, got, e, c.want)
		}
	}
}

func TestUnwrapOfCutFrames(t *testing.T) {
	for _, n := range []int{0, 1, 5, 40} {
		b := framed(some(n))
		for i := range b {
			want := api.ErrFrameLength
			if i < overhead {
				want = api.ErrFrameMark
			}
			if got, e := frame.Unwrap(b[:i]); e != want || len(got) > 0 {
				t.Errorf("Unwrap of %d bytes of a frame of %d: %x, %d, want %d", i, n, got, e, want)
			}
		}
	}
}

func TestThereAndBack(t *testing.T) {
	for _, n := range lengths {
		for _, body := range [][]byte{some(n), make([]byte, n), bytes.Repeat([]byte{0xff}, n), bytes.Repeat([]byte("TN"), n/2)} {
			b, e := frame.Wrap(body)
			if e != api.OK || len(b) != len(body)+overhead {
				t.Fatalf("Wrap of %d bytes: %d bytes, %d", len(body), len(b), e)
			}
			if back, e := frame.Unwrap(b); e != api.OK || !bytes.Equal(back, body) {
				t.Errorf("Unwrap of Wrap of %d bytes: %d bytes, %d", len(body), len(back), e)
			}
		}
	}
}

// faultAt is what a change of a byte of a frame is told as.
func faultAt(at int, changed []byte) api.Errno {
	switch {
	case at < 2:
		return api.ErrFrameMark
	case at < 6 && binary.LittleEndian.Uint32(changed[2:]) > maxFrame:
		return api.ErrFrameLong
	case at < 6:
		return api.ErrFrameLength
	}
	return api.ErrFrameSum
}

func TestOneByteChanged(t *testing.T) {
	for n := range 14 {
		for at := range n + overhead {
			for x := 1; x < 256; x++ {
				b := framed(some(n))
				b[at] ^= byte(x)
				if got, e := frame.Unwrap(b); e != faultAt(at, b) || len(got) > 0 {
					t.Fatalf("Unwrap of %x, changed at %d: %x, %d", b, at, got, e)
				}
			}
		}
	}
}

func TestOneByteOfALongFrameChanged(t *testing.T) {
	b := framed(some(maxFrame))
	for at := 0; at < len(b); at += 641 {
		old := b[at]
		b[at] ^= 1 << (at % 8)
		if got, e := frame.Unwrap(b); e != faultAt(at, b) || len(got) > 0 {
			t.Errorf("Unwrap of a frame of %d bytes, changed at %d: %d", maxFrame, at, e)
		}
		b[at] = old
	}
}

// changes are of one to four bytes: all of them are changed.
func changes() [][]byte {
	l := [][]byte{{1}, {0xff}, {0x80, 1}, {0xff, 0xff}, {1, 1, 1}, {0xff, 0xff, 0xff}, {1, 0, 0, 0x80}, {0xff, 0xff, 0xff, 0xff}}
	r := rand.New(rand.NewPCG(3, 4))
	for i := range 400 {
		x := make([]byte, i%4+1)
		for j := range x {
			x[j] = byte(1 + r.IntN(255))
		}
		l = append(l, x)
	}
	return l
}

func TestAdjacentBytesChanged(t *testing.T) {
	for n := range 20 {
		for _, x := range changes() {
			for at := 6; at+len(x) <= n+overhead; at++ {
				if at < overhead && at+len(x) > overhead {
					continue
				}
				b := framed(some(n))
				for i := range x {
					b[at+i] ^= x[i]
				}
				if got, e := frame.Unwrap(b); e != api.ErrFrameSum || len(got) > 0 {
					t.Fatalf("Unwrap of a frame of %d bytes, changed at %d by %x: %x, %d", n, at, x, got, e)
				}
			}
		}
	}
}

// spare is b with bytes between its length and its capacity, all of them 0xaa.
func spare(b []byte) []byte {
	s := bytes.Repeat([]byte{0xaa}, len(b)+64)
	return s[:copy(s, b)]
}

// untouched tells whether what is behind a slice that spare made is as it was.
func untouched(b []byte) bool {
	return bytes.Equal(b[len(b):cap(b)], bytes.Repeat([]byte{0xaa}, cap(b)-len(b)))
}

func TestArgumentsAreLeftAlone(t *testing.T) {
	for _, n := range []int{0, 1, 20, 300} {
		body := spare(some(n))
		frame.Sum(0, body)
		b, _ := frame.Wrap(body)
		if !bytes.Equal(body, some(n)) || !untouched(body) {
			t.Errorf("Wrap of %d bytes changed its argument", n)
		}
		whole := spare(framed(some(n)))
		back, _ := frame.Unwrap(whole)
		if !bytes.Equal(whole, framed(some(n))) || !untouched(whole) {
			t.Errorf("Unwrap of %d bytes changed its argument", n)
		}
		clear(body)
		clear(whole)
		if !bytes.Equal(b, framed(some(n))) || !bytes.Equal(back, some(n)) {
			t.Errorf("a result of %d bytes shares memory with an argument", n)
		}
	}
}

func TestResultsAreNew(t *testing.T) {
	b := framed(some(30))
	first, _ := frame.Unwrap(b)
	clear(first[:cap(first)])
	if second, e := frame.Unwrap(b); e != api.OK || !bytes.Equal(second, some(30)) {
		t.Errorf("Unwrap behind a changed result: %x, %d", second, e)
	}
	one, _ := frame.Wrap(some(30))
	clear(one[:cap(one)])
	if two, e := frame.Wrap(some(30)); e != api.OK || !bytes.Equal(two, b) {
		t.Errorf("Wrap behind a changed result: %x, %d", two, e)
	}
}
