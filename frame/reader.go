package frame

import (
	"bytes"

	"tontine/api"
)

// Reader takes frames out of a stream of bytes.
type Reader struct {
	held []byte
}

// state is how much of the next frame a reader holds.
type state int

const (
	empty    state = iota
	begun          // the first byte of the mark
	marked         // both bytes of the mark
	measured       // the length too
	complete       // all of it
)

// New is one to which nothing came.
func New() *Reader { return &Reader{} }

// Feed hands it the next bytes.
func (r *Reader) Feed(b []byte) api.Errno {
	if r == nil {
		return api.ErrArg
	}
	// Held against what is free, since both lengths together could run over.
	if len(b) > api.MaxWaiting-len(r.held) {
		return api.ErrFrameFull
	}
	r.held = append(r.held, b...)
	return api.OK
}

// Next is the next body, if it is whole.
func (r *Reader) Next() ([]byte, bool, api.Errno) {
	if r == nil {
		return nil, false, api.ErrArg
	}
	if e := r.fault(); e != api.OK {
		return nil, false, e
	}
	if r.state() != complete {
		return nil, false, api.OK
	}
	end := r.end()
	body := bytes.Clone(r.held[bodyAt:end])
	r.held = r.held[end:]
	return body, true, api.OK
}

// Waiting is how many bytes wait.
func (r *Reader) Waiting() int {
	if r == nil {
		return 0
	}
	return len(r.held)
}

// fault is what is wrong with the frame that the bytes begin with, as far as they go.
func (r *Reader) fault() api.Errno {
	e := api.OK
	// The first fault of the frame is to be told, so each test overrules those above it.
	switch r.state() {
	case complete:
		if word(r.held[sumAt:]) != sumOf(r.held[:r.end()]) {
			e = api.ErrFrameSum
		}
		fallthrough
	case measured:
		if word(r.held[lengthAt:]) > api.MaxFrame {
			e = api.ErrFrameLong
		}
		fallthrough
	case marked:
		if r.held[1] != secondMark {
			e = api.ErrFrameMark
		}
		fallthrough
	case begun:
		if r.held[0] != firstMark {
			e = api.ErrFrameMark
		}
	}
	return e
}

func (r *Reader) state() state {
	switch n := int64(len(r.held)); {
	case n < 1:
		return empty
	case n < lengthAt:
		return begun
	case n < sumAt:
		return marked
	case n < r.end():
		return measured
	}
	return complete
}

// end is where the frame that the bytes begin with ends, if its length, which they hold, is right; no length is too great for 64 bits.
func (r *Reader) end() int64 { return bodyAt + int64(word(r.held[lengthAt:])) }
