package wire

import (
	"errors"
	"testing"

	"tontine/api"
)

// inner is an error that has another one in it.
type inner struct{ error }

func (i inner) Unwrap() error { return i.error }

func TestFaultOf(t *testing.T) {
	f := &api.Fault{Err: api.ErrWireForm, Of: "tx"}
	for _, r := range []any{f, inner{f}, inner{inner{f}}} {
		if faultOf(r) != f {
			t.Errorf("%v: %v", r, faultOf(r))
		}
	}
	// No call may seem to have gone well behind a panic, whatever it was.
	for _, r := range []any{"text", 7, errors.New("another one"), inner{api.ErrWireForm}, (*int)(nil)} {
		if got := faultOf(r); got == nil || *got != (api.Fault{Err: api.ErrArg, Of: "body"}) {
			t.Errorf("%v: %v", r, got)
		}
	}
}
